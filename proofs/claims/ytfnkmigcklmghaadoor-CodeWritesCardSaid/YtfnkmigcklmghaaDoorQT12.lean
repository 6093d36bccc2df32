/- Layer 5: code.through with a reader. -/
import Derived.Test.YtfnkmigcklmghaaDoorQCodeFi
import Derived.Test.YtfnkmigcklmghaaDoorQCodeQe
import Derived.Test.YtfnkmigcklmghaaDoorQCodeRj
import Derived.Test.YtfnkmigcklmghaaDoorQCodeRz
import Derived.Test.YtfnkmigcklmghaaDoorQCodeSs
import Derived.Test.YtfnkmigcklmghaaDoorQT10
import Derived.Test.YtfnkmigcklmghaaDoorQT6
import Derived.Test.YtfnkmigcklmghaaDoorQT9

namespace Go.Proofs.YtfnkmigcklmghaaDoor
open Go.RowKit (wrap64 intOf Below)
set_option linter.unusedVariables false
set_option linter.unusedSimpArgs false

/-- What comes of a reader's walk: the program, or the error. -/
def ThRd (r B g off : Nat) (p : PR ProgD) (w : World) (e : Ending) (w' : World) : Prop :=
  (∃ P rest cs, p = .ok P rest ∧ e = .returned (.int .i64 0) ∧ RdAt w' r B rest ∧ cs.length = 3 ∧ WinAt w' g off cs ∧ ProgO w' (From w.heap.size) cs P ∧ Off (fun i => i = r ∨ i = g) w w') ∨
  (∃ er, p = .no er ∧ e = .returned (.int .i64 er) ∧ Off (fun i => i = r ∨ i = g) w w')
set_option maxRecDepth 100000 in
set_option maxHeartbeats 2000000 in
theorem through_rd (r B g off : Nat) (L : List UInt8) (w : World) (h : RdAt w r B L) (hw : WinAt w g off [.slice none 0 0, .slice none 0 0, .slice none 0 0]) (hB : B ≤ g) (hg : g ≠ r) (hft : FT w) (hfb : 2 < B) :
    Calls Tryd.prog 27 #[.iface 97 (.pointer (some ⟨r, 0, none⟩)), .pointer (some ⟨g, off, none⟩)] w (ThRd r B g off (rdProg L) w) := by
  have hmf : ∀ (fn : Fn) (first cap : Array Value) (w : World), (Instr.makeFunc fn first cap).run Tryd.prog w = .ok (.func fn first cap) w := fun _ _ _ _ => rfl
  have hb1 : Below w.heap.size w (w.alloc (.cells #[.int .i64 0] 31)) := (Below.refl _ _).alloc (Nat.le_refl _) _
  have hrl := h.lt
  have hgl := hw.lt
  have HW := Lib.hid (h.since hb1)
  have HWN := Lib.hid (hw.stays (X := RX r) (Off.since hb1) hg)
  have HF := Lib.hid (hft.since hb1)
  have HNW := Lib.hid (heap_alloc_new w (.cells #[.int .i64 0] 31))
  have HO1 := Lib.hid (one_prog r B hfb)
  have HAL : RowKit.Hid (Off (fun i => i = r ∨ i = g) w (w.alloc (.cells #[.int .i64 0] 31))) := Lib.hid (Off.alloc (Off.refl _ _) _)
  clear h hw hft hb1
  go_enter_defers Tryd.func27, Tryd.ntmps27
  go_wp2_with fail
  refine (HO1.out _ L g off HW.out HWN.out hB hg HF.out).mono ?_
  rintro e u2 (⟨P, rest, cs, hp, rfl, hr2, hw2, hl2, hc2, hq2⟩ | ⟨er, hp, rfl, hO⟩)
  · have hblk : u2.heap[w.heap.size]? = some (.cells #[.int .i64 0] 31 (0, 0)) := (hw2.block w.heap.size (by simp) (by omega) (by omega)).trans HNW.out
    have hcell : u2.cell? ⟨w.heap.size, 0, none⟩ = some (.int .i64 0) := by simp [World.cell?, hblk]
    have hfree : u2.frozen? ⟨w.heap.size, 0, none⟩ = false := by simp [World.frozen?, hblk]
    have HC := Lib.hid hcell
    have HR : RowKit.Hid (ThRd r B g off (rdProg L) w (.returned (.int .i64 0)) u2) := Lib.hid (.inl ⟨P, rest, cs, hp, rfl, hr2, hl2, hc2, ProgO.holds.wider hq2 (fun b _ hb => Nat.le_trans (by simp) hb), HAL.out.trans hw2.offs⟩)
    clear hblk hp hr2 hw2 hl2 hc2 hq2
    go_wp2_with fail
    rw [setCell_same HC.out]
    refine leaves_cons (f := 60) (args := #[.pointer (some ⟨w.heap.size, 0, none⟩)]) (by simp) (by simp [go_sem]) ?_
    refine (catch_idle ⟨w.heap.size, 0, none⟩ _).mono ?_
    rintro e u' w'' ⟨rfl, rfl, rfl⟩
    simp [Leaves, settle, results, Tryd.results27, go_sem, hcell]
    exact HR.out
  · have hblk : u2.heap[w.heap.size]? = some (.cells #[.int .i64 0] 31 (0, 0)) := (hO.block w.heap.size (by simp) (fun e => by rcases e with e | e <;> omega)).trans HNW.out
    have hcell : u2.cell? ⟨w.heap.size, 0, none⟩ = some (.int .i64 0) := by simp [World.cell?, hblk]
    have hfree : u2.frozen? ⟨w.heap.size, 0, none⟩ = false := by simp [World.frozen?, hblk]
    have HR : RowKit.Hid (ThRd r B g off (rdProg L) w (.returned (.int .i64 er)) (u2.setCell ⟨w.heap.size, 0, none⟩ (.int .i64 er))) := Lib.hid (.inr ⟨er, hp, rfl, (HAL.out.trans hO).setCell (.inr (Nat.le_refl _)) _⟩)
    clear hblk hp hO
    go_wp2_with fail
    refine leaves_cons (f := 60) (args := #[.pointer (some ⟨w.heap.size, 0, none⟩)]) (by simp) (by simp [go_sem]) ?_
    refine (catch_panic ⟨w.heap.size, 0, none⟩ 0 er _ hcell hfree).mono ?_
    rintro e u' w'' ⟨rfl, rfl, rfl⟩
    simp [Leaves, settle, results, Tryd.results27, go_sem, hcell]
    exact HR.out
end Go.Proofs.YtfnkmigcklmghaaDoor

/- Layer 5: code.Decode: the program that bytes are, or why none. -/
namespace Go.Proofs.YtfnkmigcklmghaaDoor
open Go.RowKit (wrap64 intOf Below)
set_option linter.unusedVariables false
set_option linter.unusedSimpArgs false

/-- What Decode comes to: too many bytes are none, nor are bytes with some behind. -/
def inBytes (L : List UInt8) : PR ProgD := if 65536 < L.length then .no 2 else (rdProg L).bind fun P r => if r.length = 0 then .ok P [] else .no 4
def DecPost (p : PR ProgD) (w : World) (e : Ending) (w' : World) : Prop :=
  (∃ P g s c f, p = .ok P [] ∧ e = .returned (.tuple #[.pointer (some ⟨g, 0, none⟩), .int .i64 0]) ∧ w.heap.size ≤ g ∧ WinAt w' g 0 [s, c, f] ∧ ProgO w' (From w.heap.size) [s, c, f] P ∧ Below w.heap.size w w') ∨
  (∃ er, p = .no er ∧ er ≠ 0 ∧ e = .returned (.tuple #[.pointer none, .int .i64 er]) ∧ Below w.heap.size w w')
theorem three_cells {cs : List Value} (h : cs.length = 3) : ∃ s c f, cs = [s, c, f] := by
  match cs, h with
  | [s, c, f], _ => exact ⟨s, c, f, rfl⟩
/-- Which errors a reader has: none of them is 0. -/
def NoZero {α : Type} (p : List UInt8 → PR α) : Prop := ∀ L e, p L = .no e → e ≠ 0
theorem NoZero.bind {α β : Type} {p : List UInt8 → PR α} {f : α → List UInt8 → PR β} (h : NoZero p) (h' : ∀ x, NoZero (f x)) : NoZero (fun L => (p L).bind f) := by
  intro L e he
  simp only at he
  cases hp : p L with
  | no e' => rw [hp] at he; cases he; exact h L _ hp
  | ok x r => rw [hp] at he; exact h' x r e he
theorem nz_num : NoZero rdNum := by
  intro L e h
  rcases gives_or_fails L with ⟨m, k, hg⟩ | ⟨er, hf⟩
  · rw [rdNum_yes hg] at h; cases h
  · rw [rdNum_no hf] at h
    cases h
    have := hf.2
    omega
theorem nz_ok {α : Type} (g : List UInt8 → PR α) (h : ∀ r, (∃ x r', g r = .ok x r') ∨ ∃ e, g r = .no e ∧ e ≠ 0) : NoZero g := by
  intro L e he
  rcases h L with ⟨x, r', h⟩ | ⟨e', h, hne⟩
  · rw [h] at he; cases he
  · rw [h] at he; cases he; exact hne
theorem nz_pure {α : Type} (x : α) : NoZero (fun r => .ok x r) := nz_ok _ fun r => .inl ⟨_, _, rfl⟩
theorem nz_map {α β : Type} {p : List UInt8 → PR α} (g : α → β) (h : NoZero p) : NoZero (fun L => (p L).bind fun x r => .ok (g x) r) := h.bind fun x => nz_pure (g x)
theorem nz_below (b : Int) : NoZero (rdBelow b) := nz_num.bind fun n => nz_ok _ fun r => by
  by_cases h : 0 ≤ n ∧ n < b
  · exact .inl ⟨_, _, if_pos h⟩
  · exact .inr ⟨4, if_neg h, by decide⟩
theorem nz_count (most : Nat) : NoZero (rdCount most) := nz_num.bind fun n => nz_ok _ fun r => by
  by_cases h : n < 0
  · exact .inr ⟨4, if_pos h, by decide⟩
  · by_cases h2 : (most : Int) < n
    · exact .inr ⟨2, by rw [if_neg h, if_pos h2], by decide⟩
    · exact .inl ⟨_, _, by rw [if_neg h, if_neg h2]⟩
theorem nz_times {α : Type} {p : List UInt8 → PR α} (h : NoZero p) : ∀ n, NoZero (rdTimes p n)
  | 0 => nz_pure _
  | n + 1 => h.bind fun x => nz_map (fun xs => x :: xs) (nz_times h n)
theorem nz_list {α : Type} {p : List UInt8 → PR α} (most : Nat) (h : NoZero p) : NoZero (rdList most p) := (nz_count most).bind fun n => nz_times h n
theorem nz_nums (most : Nat) : NoZero (rdNums most) := nz_list most nz_num
theorem nz_text : NoZero rdText := (nz_count 64).bind fun m => nz_ok _ fun r => by
  by_cases h : m ≤ r.length
  · exact .inl ⟨_, _, if_pos h⟩
  · exact .inr ⟨3, if_neg h, by decide⟩
theorem nz_truth : NoZero rdTruth := nz_map (fun n => n == 1) (nz_below 2)
theorem nz_field (o : OpD) (f : UInt8) : NoZero (rdField o f) := by
  intro L e h
  unfold rdField at h
  repeat' split at h
  · exact nz_map (fun n => { o with N := n }) nz_num L e h
  · exact nz_map (fun n => { o with S := n }) nz_text L e h
  · exact nz_map (fun n => { o with A := n }) nz_num L e h
  · exact nz_map (fun n => { o with B := n }) nz_num L e h
  · exact nz_map (fun n => { o with C := n }) nz_num L e h
  · exact nz_map (fun n => { o with L := n }) (nz_nums 8) L e h
  · exact nz_map (fun n => { o with T := n }) nz_truth L e h
theorem nz_fields : ∀ (fs : List UInt8) (o : OpD), NoZero (rdFields o fs)
  | [], o => nz_pure o
  | f :: fs, o => (nz_field o f).bind fun o' => nz_fields fs o'
theorem nz_op : NoZero rdOp := (nz_below 26).bind fun k => nz_fields _ _
theorem nz_target : NoZero rdTarget := nz_num.bind fun t => nz_map (fun Z => (t, Z)) (nz_nums 8)
theorem nz_end : NoZero rdEnd := (nz_below 4).bind fun k => by
  intro L e h
  repeat' split at h
  · exact nz_map (fun p => (⟨k, 0, p.1, 0, p.2, []⟩ : EndD)) nz_target L e h
  · exact (nz_num.bind fun a => nz_target.bind fun p => nz_map (fun q => (⟨k, a, p.1, q.1, p.2, q.2⟩ : EndD)) nz_target) L e h
  · exact nz_map (fun a => (⟨k, a, 0, 0, [], []⟩ : EndD)) nz_num L e h
theorem nz_block : NoZero rdBlock := (nz_nums 8).bind fun ps => (nz_list 700 nz_op).bind fun os => nz_map (fun e => (⟨ps, os, e⟩ : BlockD)) nz_end
theorem nz_func : NoZero rdFunc := nz_num.bind fun t => nz_map (fun bs => (⟨t, bs⟩ : FuncD)) (nz_list 40 nz_block)
theorem nz_sig : NoZero rdSig := (nz_nums 8).bind fun ps => nz_map (fun t => (⟨ps, t⟩ : SigD)) nz_num
theorem nz_class : NoZero rdClass := (nz_nums 8).bind fun ps => nz_map (fun t => (⟨ps, t⟩ : ClassD)) (nz_nums 4)
theorem nz_prog : NoZero rdProg := (nz_list 4 nz_sig).bind fun ss => (nz_list 8 nz_class).bind fun cs => nz_map (fun fs => (⟨ss, cs, fs⟩ : ProgD)) (nz_list 16 nz_func)

set_option maxRecDepth 100000 in
set_option maxHeartbeats 4000000 in
theorem decode_any (a : Option Addr) (n c : Nat) (L : List UInt8) (w : World) (h : BytesAt w a n c L) (ha : ∀ ad, a = some ad → ad.block < w.heap.size) (hn : n ≤ 140737488355328) (hft : FT w) :
    Calls Tryd.prog 24 #[.slice a n c] w (DecPost (inBytes L) w) := by
  have hlen : L.length = n := h.1
  by_cases hlong : 65536 < n
  · have HR : RowKit.Hid (inBytes L = .no 2) := Lib.hid (by unfold inBytes; rw [if_pos (by omega)])
    clear h hft
    go_enter Tryd.func24, Tryd.ntmps24
    go_wp2_with fail
    go_ret2
    exact .inr ⟨2, HR.out, by decide, rfl, Below.refl _ _⟩
  · have HIN : RowKit.Hid (inBytes L = (rdProg L).bind fun P r => if r.length = 0 then .ok P [] else .no 4) := Lib.hid (by unfold inBytes; rw [if_neg (by omega)])
    have hb1 : Below w.heap.size w (w.alloc (.cells #[.slice a n c] 99)) := (Below.refl _ _).alloc (Nat.le_refl _) _
    have hz1 : (w.alloc (.cells #[.slice a n c] 99)).heap.size = w.heap.size + 1 := by simp
    have hb2 : Below w.heap.size w ((w.alloc (.cells #[.slice a n c] 99)).alloc (.cells #[.slice none 0 0, .slice none 0 0, .slice none 0 0] 26)) := hb1.alloc (by omega) _
    have hblk1 : ((w.alloc (.cells #[.slice a n c] 99)).alloc (.cells #[.slice none 0 0, .slice none 0 0, .slice none 0 0] 26)).heap[w.heap.size]? = some (.cells #[.slice a n c] 99 (0, 0)) :=
      (heap_alloc_old _ _ (by omega)).trans (heap_alloc_new w _)
    have hblk2 : ((w.alloc (.cells #[.slice a n c] 99)).alloc (.cells #[.slice none 0 0, .slice none 0 0, .slice none 0 0] 26)).heap[w.heap.size + 1]? = some (.cells #[.slice none 0 0, .slice none 0 0, .slice none 0 0] 26 (0, 0)) := by
      rw [← hz1]; exact heap_alloc_new _ _
    have hrd : RdAt ((w.alloc (.cells #[.slice a n c] 99)).alloc (.cells #[.slice none 0 0, .slice none 0 0, .slice none 0 0] 26)) w.heap.size w.heap.size L :=
      ⟨a, n, c, hblk1, h.since hb2, ha, Nat.le_refl _, hn⟩
    have hwin : WinAt ((w.alloc (.cells #[.slice a n c] 99)).alloc (.cells #[.slice none 0 0, .slice none 0 0, .slice none 0 0] 26)) (w.heap.size + 1) 0 [.slice none 0 0, .slice none 0 0, .slice none 0 0] :=
      ⟨_, _, hblk2, fun j hj => by match j, hj with | 0, _ => rfl | 1, _ => rfl | 2, _ => rfl⟩
    have HRD := Lib.hid hrd
    have HWI := Lib.hid hwin
    have HFT := Lib.hid (hft.since hb2)
    have HFL := Lib.hid hft.lt
    have HB := Lib.hid hb2
    clear h hb1 hb2 hblk1 hblk2 hrd hwin hft hz1
    go_enter Tryd.func24, Tryd.ntmps24
    go_wp2_with fail
    refine (through_rd w.heap.size w.heap.size (w.heap.size + 1) 0 L _ HRD.out HWI.out (Nat.le_succ _) (by omega) HFT.out HFL.out).mono ?_
    rintro e w1 (⟨P, rest, cs, hp, rfl, hr1, hl1, hw1, hq1, ho1⟩ | ⟨er, hp, rfl, ho1⟩)
    · obtain ⟨s, cc, f, rfl⟩ := three_cells hl1
      have hbel : Below w.heap.size w w1 := HB.out.trans (ho1.below (by simp <;> omega) (fun i hi => by rcases hi with rfl | rfl <;> omega))
      obtain ⟨a1, n1, c1, hblk, hat1, _, _, _⟩ := hr1
      have hn1 : rest.length = n1 := hat1.1
      have hcell : w1.cell? ⟨w.heap.size, 0, none⟩ = some (.slice a1 n1 c1) := by simp [World.cell?, hblk]
      have HBE := Lib.hid hbel
      have HW1 := Lib.hid hw1
      have HQ1 := Lib.hid (ProgO.holds.wider hq1 (S' := From w.heap.size) (fun b _ hb => Nat.le_trans (by simp <;> omega) hb))
      have HP : RowKit.Hid (inBytes L = if n1 = 0 then .ok P [] else .no 4) := Lib.hid (by rw [HIN.out, hp]; simp only [PR.bind, hn1])
      clear hbel hblk hat1 hw1 hq1 hp ho1 hl1 hn1
      by_cases h0 : n1 = 0
      · subst h0
        have HP2 : RowKit.Hid (inBytes L = .ok P []) := Lib.hid (by rw [HP.out, if_pos rfl])
        go_wp2_with fail
        go_ret2
        exact .inl ⟨P, _, s, cc, f, HP2.out, rfl, by omega, HW1.out, HQ1.out, HBE.out⟩
      · have HP2 : RowKit.Hid (inBytes L = .no 4) := Lib.hid (by rw [HP.out, if_neg h0])
        have h0' : 0 < n1 := by omega
        go_wp2_with fail
        go_ret2
        exact .inr ⟨4, HP2.out, by decide, rfl, HBE.out⟩
    · have hbel : Below w.heap.size w w1 := HB.out.trans (ho1.below (by simp <;> omega) (fun i hi => by rcases hi with rfl | rfl <;> omega))
      have HBE := Lib.hid hbel
      have her : er ≠ 0 := nz_prog L er hp
      have HP : RowKit.Hid (inBytes L = .no er) := Lib.hid (by rw [HIN.out, hp]; rfl)
      have hne : (er != 0) = true := by rw [bne_iff_ne]; exact her
      have HNE := Lib.hid her
      clear hp ho1 hbel her
      go_wp2_with fail
      go_ret2
      exact .inr ⟨er, HP.out, HNE.out, rfl, HBE.out⟩
end Go.Proofs.YtfnkmigcklmghaaDoor

/- Layer 5: the statements' own living call: a small program becomes bytes, and comes back. -/
namespace Go.Proofs.YtfnkmigcklmghaaDoor
open Go.RowKit (wrap64 intOf Below)
set_option linter.unusedVariables false
set_option linter.unusedSimpArgs false

/-- The small program. -/
def liveOp : OpD := ⟨0, 0, 0, 0, 7, ⟨#[]⟩, [], false⟩
def liveBlock : BlockD := ⟨[], [liveOp], ⟨2, 0, 0, 0, [], []⟩⟩
def liveFunc : FuncD := ⟨0, [liveBlock]⟩
def liveProg : ProgD := ⟨[], [], [liveFunc]⟩
/-- What the numbers that are read of a program are. -/
theorem ProgQ.rng {W : World} {cs : List Value} {P : ProgD} (h : ProgQ W cs P) : RngProg P := by
  have key : ∀ {α : Type} {Q : World → List Value → α → Prop} {k : Nat} {v : Value} {xs : List α} {R : α → Prop}, (∀ cs x, Q W cs x → R x) → RowV Q k W v xs → ∀ x ∈ xs, R x := by
    intro α Q k v xs R hR hrow x hx
    obtain ⟨a, n, c, _, hl, _, _, hpos⟩ := hrow
    obtain ⟨i, hi, rfl⟩ := List.getElem_of_mem hx
    obtain ⟨g, off, _, _, hcs⟩ := hpos (by omega)
    obtain ⟨cs, _, _, hq⟩ := hcs i hi
    exact hR _ _ hq
  have nums : ∀ {v : Value} {Z : List Int}, NumsV W v Z → ∀ z ∈ Z, InR z := fun ⟨_, _, _, _, _, _, _, h⟩ => h
  obtain ⟨s, c, f, rfl, hs, hc, hf⟩ := h
  refine ⟨key (fun cs x hx => ?_) hs, key (fun cs x hx => ?_) hc, key (fun cs x hx => ?_) hf⟩
  · obtain ⟨p, _, h1, h2⟩ := hx; exact ⟨nums h1, h2⟩
  · obtain ⟨p, q, _, h1, h2⟩ := hx; exact ⟨nums h1, nums h2⟩
  · obtain ⟨b, _, h1, h2⟩ := hx
    refine ⟨h1, key (fun cs x hx => ?_) h2⟩
    obtain ⟨p, o, es, _, h3, h4, l, m, _, r1, r2, r3, r4, h5, h6⟩ := hx
    refine ⟨nums h3, key (fun cs x hx => ?_) h4, r1, r2, r3, r4, nums h5, nums h6⟩
    obtain ⟨l, _, r1, r2, r3, r4, r5, _, h⟩ := hx
    exact ⟨r1, r2, r3, r4, r5, nums h⟩
theorem ProgQ.form {W : World} {s c f : Value} {P : ProgD} (h : ProgQ W [s, c, f] P) : ∃ sa sn sc ca cn cc fa fn fc, s = .slice sa sn sc ∧ c = .slice ca cn cc ∧ f = .slice fa fn fc := by
  obtain ⟨_, _, _, e, ⟨sa, sn, sc, rfl, _⟩, ⟨ca, cn, cc, rfl, _⟩, ⟨fa, fn, fc, rfl, _⟩⟩ := h
  simp only [List.cons.injEq, and_true] at e
  obtain ⟨rfl, rfl, rfl⟩ := e
  exact ⟨_, _, _, _, _, _, _, _, _, rfl, rfl, rfl⟩
/-- The bytes of a program are read as it, without what plays no part. -/
theorem in_out {P : ProgD} (hr : RngProg P) {l : List UInt8} (h : outBytes (encProg (plainProg P)) = .ok l) : inBytes l = .ok (plainProg P) [] ∧ l.length ≤ 65536 ∧ encProg (plainProg P) = .ok l := by
  have he : encProg (plainProg P) = .ok l ∧ l.length ≤ 65536 := by
    rcases out_or (encProg (plainProg P)) with ⟨m, hm⟩ | ⟨er, hm⟩
    · rw [hm] at h
      simp only [outBytes] at h
      split at h
      · cases h
      · cases h
        exact ⟨hm, by omega⟩
    · rw [hm] at h; cases h
  have ht := (takes_prog _ _ hr.plain he.1).1 []
  rw [List.append_nil, plainProg_twice] at ht
  refine ⟨?_, he.2, he.1⟩
  unfold inBytes
  rw [if_neg (by omega), ht]
  rfl
def liveBytes : List UInt8 := (match encProg liveProg with | .ok l => l | .no _ => [])
theorem live_out : outBytes (encProg (plainProg liveProg)) = .ok liveBytes := by kernel_rfl
theorem live_len : 6 < liveBytes.length := by decide +kernel
theorem live_vals : valuesOf liveFunc = 1 := by decide +kernel
theorem live_plain : plainProg liveProg = liveProg := by rfl
theorem live_sm : SmProg liveProg := by
  refine ⟨by decide, by decide, by decide, fun f hf => ?_⟩
  simp only [liveProg, List.mem_singleton] at hf
  subst hf
  refine ⟨by decide, fun b hb => ?_⟩
  simp only [liveFunc, List.mem_singleton] at hb
  subst hb
  show [liveOp].length ≤ 100000
  decide
/-- It lies in four blocks. -/
structure LiveAt (w W : World) : Prop where
  bel : Below w.heap.size w W
  size : W.heap.size = w.heap.size + 4
  prog : ProgQ W [.slice none 0 0, .slice none 0 0, .slice (some ⟨w.heap.size + 1 + 1, 0, none⟩) 1 1] liveProg
  func : FuncQ W [.int .i64 0, .slice (some ⟨w.heap.size + 1, 0, none⟩) 1 1] liveFunc
  b3 : W.heap[w.heap.size + 1 + 1 + 1]? = some (.cells #[.slice none 0 0, .slice none 0 0, .slice (some ⟨w.heap.size + 1 + 1, 0, none⟩) 1 1] 26 (0, 0))
  b2 : W.heap[w.heap.size + 1 + 1]? = some (.cells #[.int .i64 0, .slice (some ⟨w.heap.size + 1, 0, none⟩) 1 1] 47 (0, 0))
theorem live_laid (w : World) : LiveAt w ((((w.alloc (.cells #[.int .i64 0, .int .i64 0, .int .i64 0, .int .i64 0, .int .i64 7, .string ⟨#[]⟩, .slice none 0 0, .bool false] 38)).alloc (.cells #[.slice none 0 0, .slice (some ⟨w.heap.size, 0, none⟩) 1 1, .int .i64 2, .int .i64 0, .int .i64 0, .int .i64 0, .slice none 0 0, .slice none 0 0] 59)).alloc (.cells #[.int .i64 0, .slice (some ⟨w.heap.size + 1, 0, none⟩) 1 1] 47)).alloc (.cells #[.slice none 0 0, .slice none 0 0, .slice (some ⟨w.heap.size + 1 + 1, 0, none⟩) 1 1] 26)) := by
  have hbel : Below w.heap.size w ((((w.alloc (.cells #[.int .i64 0, .int .i64 0, .int .i64 0, .int .i64 0, .int .i64 7, .string ⟨#[]⟩, .slice none 0 0, .bool false] 38)).alloc (.cells #[.slice none 0 0, .slice (some ⟨w.heap.size, 0, none⟩) 1 1, .int .i64 2, .int .i64 0, .int .i64 0, .int .i64 0, .slice none 0 0, .slice none 0 0] 59)).alloc (.cells #[.int .i64 0, .slice (some ⟨w.heap.size + 1, 0, none⟩) 1 1] 47)).alloc (.cells #[.slice none 0 0, .slice none 0 0, .slice (some ⟨w.heap.size + 1 + 1, 0, none⟩) 1 1] 26)) := ((((Below.refl _ _).alloc (Nat.le_refl _) _).alloc (by simp) _).alloc (by simp <;> omega) _).alloc (by simp <;> omega) _
  have h3 : ((((w.alloc (.cells #[.int .i64 0, .int .i64 0, .int .i64 0, .int .i64 0, .int .i64 7, .string ⟨#[]⟩, .slice none 0 0, .bool false] 38)).alloc (.cells #[.slice none 0 0, .slice (some ⟨w.heap.size, 0, none⟩) 1 1, .int .i64 2, .int .i64 0, .int .i64 0, .int .i64 0, .slice none 0 0, .slice none 0 0] 59)).alloc (.cells #[.int .i64 0, .slice (some ⟨w.heap.size + 1, 0, none⟩) 1 1] 47)).alloc (.cells #[.slice none 0 0, .slice none 0 0, .slice (some ⟨w.heap.size + 1 + 1, 0, none⟩) 1 1] 26)).heap[w.heap.size + 1 + 1 + 1]? = some (.cells #[.slice none 0 0, .slice none 0 0, .slice (some ⟨w.heap.size + 1 + 1, 0, none⟩) 1 1] 26 (0, 0)) := by
    have := heap_alloc_new (((w.alloc (.cells #[.int .i64 0, .int .i64 0, .int .i64 0, .int .i64 0, .int .i64 7, .string ⟨#[]⟩, .slice none 0 0, .bool false] 38)).alloc (.cells #[.slice none 0 0, .slice (some ⟨w.heap.size, 0, none⟩) 1 1, .int .i64 2, .int .i64 0, .int .i64 0, .int .i64 0, .slice none 0 0, .slice none 0 0] 59)).alloc (.cells #[.int .i64 0, .slice (some ⟨w.heap.size + 1, 0, none⟩) 1 1] 47)) (.cells #[.slice none 0 0, .slice none 0 0, .slice (some ⟨w.heap.size + 1 + 1, 0, none⟩) 1 1] 26)
    simpa using this
  generalize hW : ((((w.alloc (.cells #[.int .i64 0, .int .i64 0, .int .i64 0, .int .i64 0, .int .i64 7, .string ⟨#[]⟩, .slice none 0 0, .bool false] 38)).alloc (.cells #[.slice none 0 0, .slice (some ⟨w.heap.size, 0, none⟩) 1 1, .int .i64 2, .int .i64 0, .int .i64 0, .int .i64 0, .slice none 0 0, .slice none 0 0] 59)).alloc (.cells #[.int .i64 0, .slice (some ⟨w.heap.size + 1, 0, none⟩) 1 1] 47)).alloc (.cells #[.slice none 0 0, .slice none 0 0, .slice (some ⟨w.heap.size + 1 + 1, 0, none⟩) 1 1] 26)) = W at hbel h3 ⊢
  have hs : W.heap.size = w.heap.size + 4 := by rw [← hW]; simp
  have h0 : W.heap[w.heap.size]? = some (.cells #[.int .i64 0, .int .i64 0, .int .i64 0, .int .i64 0, .int .i64 7, .string ⟨#[]⟩, .slice none 0 0, .bool false] 38 (0, 0)) := by
    rw [← hW]
    exact (heap_alloc_old _ _ (by simp <;> omega)).trans ((heap_alloc_old _ _ (by simp <;> omega)).trans ((heap_alloc_old _ _ (by simp)).trans (heap_alloc_new w _)))
  have h1 : W.heap[w.heap.size + 1]? = some (.cells #[.slice none 0 0, .slice (some ⟨w.heap.size, 0, none⟩) 1 1, .int .i64 2, .int .i64 0, .int .i64 0, .int .i64 0, .slice none 0 0, .slice none 0 0] 59 (0, 0)) := by
    rw [← hW]
    exact (heap_alloc_old _ _ (by simp <;> omega)).trans ((heap_alloc_old _ _ (by simp)).trans (by
      have := heap_alloc_new (w.alloc (.cells #[.int .i64 0, .int .i64 0, .int .i64 0, .int .i64 0, .int .i64 7, .string ⟨#[]⟩, .slice none 0 0, .bool false] 38)) (.cells #[.slice none 0 0, .slice (some ⟨w.heap.size, 0, none⟩) 1 1, .int .i64 2, .int .i64 0, .int .i64 0, .int .i64 0, .slice none 0 0, .slice none 0 0] 59)
      simpa using this))
  have h2 : W.heap[w.heap.size + 1 + 1]? = some (.cells #[.int .i64 0, .slice (some ⟨w.heap.size + 1, 0, none⟩) 1 1] 47 (0, 0)) := by
    rw [← hW]
    exact (heap_alloc_old _ _ (by simp)).trans (by
      have := heap_alloc_new ((w.alloc (.cells #[.int .i64 0, .int .i64 0, .int .i64 0, .int .i64 0, .int .i64 7, .string ⟨#[]⟩, .slice none 0 0, .bool false] 38)).alloc (.cells #[.slice none 0 0, .slice (some ⟨w.heap.size, 0, none⟩) 1 1, .int .i64 2, .int .i64 0, .int .i64 0, .int .i64 0, .slice none 0 0, .slice none 0 0] 59)) (.cells #[.int .i64 0, .slice (some ⟨w.heap.size + 1, 0, none⟩) 1 1] 47)
      simpa using this)
  clear hW
  have nil : ∀ (v : Value), v = .slice none 0 0 → NumsV W v [] := fun v hv => ⟨none, 0, 0, hv, NumsAt.nil _ _, fun _ => rfl, by decide, fun z hz => (by cases hz)⟩
  have one : ∀ {α : Type} {Q : World → List Value → α → Prop} {k b : Nat} {T : TypeId} {cur : Array Value} {x : α}, W.heap[b]? = some (.cells cur T (0, 0)) → cur.size = k → Q W cur.toList x → RowV Q k W (.slice (some ⟨b, 0, none⟩) 1 1) [x] := by
    intro α Q k b T cur x hb hk hq
    refine ⟨_, 1, 1, rfl, rfl, fun h => (by cases h), by decide, fun _ => ⟨b, 0, rfl, (Array.getElem?_eq_some_iff.1 hb).1, fun i hi => ?_⟩⟩
    have hi0 : i = 0 := by simpa using hi
    subst hi0
    refine ⟨cur.toList, by simpa using hk, fun j hj => ?_, hq⟩
    simp only [World.cell?, hb, Nat.zero_mul, Nat.zero_add]
    simp at hj ⊢
  have z0 : InR 0 := ⟨by decide, by decide⟩
  have hf : FuncQ W [.int .i64 0, .slice (some ⟨w.heap.size + 1, 0, none⟩) 1 1] liveFunc := by
    refine ⟨_, rfl, z0, one h1 rfl ?_⟩
    refine ⟨_, _, _, rfl, nil _ rfl, one h0 rfl ?_, _, _, rfl, ⟨by decide, by decide⟩, z0, z0, z0, nil _ rfl, nil _ rfl⟩
    exact ⟨_, rfl, z0, z0, z0, z0, ⟨by decide, by decide⟩, Nat.zero_le _, nil _ rfl⟩
  exact ⟨hbel, hs, ⟨_, _, _, rfl, ⟨none, 0, 0, rfl, rfl, fun _ => rfl, by decide, fun h => absurd h (by omega)⟩, ⟨none, 0, 0, rfl, rfl, fun _ => rfl, by decide, fun h => absurd h (by omega)⟩, one h2 rfl hf⟩, hf, h3, h2⟩
theorem DecPost.yes {p : PR ProgD} {P : ProgD} {w : World} {e : Ending} {w' : World} (h : DecPost p w e w') (hp : p = .ok P []) :
    ∃ g sa sn sc ca cn cc fa fn fc, e = .returned (.tuple #[.pointer (some ⟨g, 0, none⟩), .int .i64 0]) ∧ w.heap.size ≤ g ∧ WinAt w' g 0 [.slice sa sn sc, .slice ca cn cc, .slice fa fn fc] ∧ ProgQ w' [.slice sa sn sc, .slice ca cn cc, .slice fa fn fc] P ∧ Below w.heap.size w w' := by
  rcases h with ⟨P', g, s, c, f, h1, h2, h3, h4, h5, h6⟩ | ⟨er, h1, _⟩
  · rw [hp] at h1
    cases h1
    have hq := ProgO.reads _ _ _ _ h5
    obtain ⟨sa, sn, sc, ca, cn, cc, fa, fn, fc, rfl, rfl, rfl⟩ := hq.form
    exact ⟨g, sa, sn, sc, ca, cn, cc, fa, fn, fc, h2, h3, h4, hq, h6⟩
  · rw [hp] at h1; cases h1
theorem EncPost.yes {o : Out} {l : List UInt8} {w : World} {e : Ending} {w' : World} (h : EncPost o w e w') (ho : o = .ok l) :
    ∃ va vn vc, e = .returned (.tuple #[.slice va vn vc, .int .i64 0]) ∧ OwnsB w' w.heap.size 5 (.slice va vn vc) l ∧ Below w.heap.size w w' := by
  rcases h with ⟨l', va, vn, vc, h1, h2, h3, h4⟩ | ⟨er, h1, _⟩
  · rw [ho] at h1; cases h1; exact ⟨va, vn, vc, h2, h3, h4⟩
  · rw [ho] at h1; cases h1

set_option maxRecDepth 100000 in
set_option maxHeartbeats 4000000 in
theorem lives5 (w : World) (hft : FT w) : Calls Tryd.prog 9 #[] w fun e w' => e = .returned (.bool true) ∧ Below w.heap.size w w' := by
  have HA := Lib.hid (live_laid w)
  have HFT := Lib.hid hft
  clear hft
  go_enter Tryd.func9, Tryd.ntmps9
  go_wp2_with fail
  generalize hW : ((((w.alloc (.cells #[.int .i64 0, .int .i64 0, .int .i64 0, .int .i64 0, .int .i64 7, .string ⟨#[]⟩, .slice none 0 0, .bool false] 38)).alloc (.cells #[.slice none 0 0, .slice (some ⟨w.heap.size, 0, none⟩) 1 1, .int .i64 2, .int .i64 0, .int .i64 0, .int .i64 0, .slice none 0 0, .slice none 0 0] 59)).alloc (.cells #[.int .i64 0, .slice (some ⟨w.heap.size + 1, 0, none⟩) 1 1] 47)).alloc (.cells #[.slice none 0 0, .slice none 0 0, .slice (some ⟨w.heap.size + 1 + 1, 0, none⟩) 1 1] 26)) = W at HA ⊢
  clear hW
  have hsz := HA.out.size
  have hc : ∀ j, W.cell? ⟨w.heap.size + 1 + 1 + 1, j, none⟩ = (#[.slice none 0 0, .slice none 0 0, .slice (some ⟨w.heap.size + 1 + 1, 0, none⟩) 1 1] : Array Value)[j]? := fun j => by simp [World.cell?, HA.out.b3]
  have HF1 := Lib.hid (HFT.out.below HA.out.bel HFT.out.lt)
  refine (encode_any (w.heap.size + 1 + 1 + 1) 0 (.slice none 0 0) (.slice none 0 0) (.slice (some ⟨w.heap.size + 1 + 1, 0, none⟩) 1 1) liveProg W (by omega) (hc 0) (hc 1) (hc 2) HA.out.prog HF1.out live_sm).mono ?_
  intro e w1 he
  obtain ⟨va, vn, vc, rfl, hown, hb1⟩ := he.yes live_out
  obtain ⟨va', vn', vc', he2, hat⟩ := hown.at
  cases he2
  have hlen : liveBytes.length = vn := hat.1
  have hio := in_out HA.out.prog.rng live_out
  have HB1 := Lib.hid (keepB HA.out.bel hb1)
  have HBW := Lib.hid hb1
  have HAT := Lib.hid hat
  have hv6 : 6 < vn := by rw [← hlen]; exact live_len
  have hv7 : vn ≤ 65536 := by rw [← hlen]; exact hio.2.1
  have HIN := Lib.hid hio.1
  have HAD : RowKit.Hid (∀ ad, va = some ad → ad.block < w1.heap.size) := Lib.hid fun ad h => by
    obtain ⟨g, off, e, hg⟩ := hat.2.2.2.2.1 (by omega)
    rw [e] at h
    cases h
    exact hg
  have HF2 := Lib.hid (HF1.out.since hb1)
  clear hown hat hb1 hio hlen he
  go_wp2_with fail
  refine (decode_any va vn vc liveBytes w1 HAT.out HAD.out (by omega) HF2.out).mono ?_
  intro e w2 he
  obtain ⟨g, sa, sn, sc, ca, cn, cc, fa, fn, fc, rfl, hg, hwin, hprog, hb2⟩ := he.yes HIN.out
  have HB2 := Lib.hid (keepB HB1.out hb2)
  have HBX := Lib.hid (keepB HBW.out hb2)
  have HWIN := Lib.hid hwin
  have HPR := Lib.hid hprog
  clear he hwin hprog hb2
  go_wp2_with fail
  refine (encode_nil w2).mono ?_
  rintro e w3 ⟨rfl, rfl⟩
  have hlt3 : w.heap.size + 1 + 1 + 1 < W.heap.size := by omega
  have hlt2 : w.heap.size + 1 + 1 < W.heap.size := by omega
  have HC0 : RowKit.Hid (w2.cell? ⟨w.heap.size + 1 + 1 + 1, 0, none⟩ = some (.slice none 0 0)) := Lib.hid ((HBX.out.cell (p := ⟨w.heap.size + 1 + 1 + 1, 0, none⟩) hlt3).trans (hc 0))
  have HC1 : RowKit.Hid (w2.cell? ⟨w.heap.size + 1 + 1 + 1, 1, none⟩ = some (.slice none 0 0)) := Lib.hid ((HBX.out.cell (p := ⟨w.heap.size + 1 + 1 + 1, 1, none⟩) hlt3).trans (hc 1))
  have HC2 : RowKit.Hid (w2.cell? ⟨w.heap.size + 1 + 1 + 1, 2, none⟩ = some (.slice (some ⟨w.heap.size + 1 + 1, 0, none⟩) 1 1)) := Lib.hid ((HBX.out.cell (p := ⟨w.heap.size + 1 + 1 + 1, 2, none⟩) hlt3).trans (hc 2))
  have HG : RowKit.Hid (w.heap.size + 1 + 1 + 1 < w2.heap.size) := Lib.hid (Nat.lt_of_lt_of_le hlt3 HBX.out.size)
  have HPL := Lib.hid (ProgQ.lasts _ _ _ _ HBX.out HA.out.prog)
  have HD0 := Lib.hid (HWIN.out.cell (j := 0) (by simp))
  have HD1 := Lib.hid (HWIN.out.cell (j := 1) (by simp))
  have HD2 := Lib.hid (HWIN.out.cell (j := 2) (by simp))
  have HGL := Lib.hid HWIN.out.lt
  have HSM := Lib.hid (ref_same (w.heap.size + 1 + 1 + 1) 0 g 0 none none (some ⟨w.heap.size + 1 + 1, 0, none⟩) sa ca fa 0 0 0 0 1 1 sn sc cn cc fn fc liveProg (plainProg liveProg) w2 HG.out HGL.out HC0.out HC1.out HC2.out HD0.out HD1.out HD2.out HPL.out HPR.out)
  have HFQ : RowKit.Hid (∀ {u : World}, Below W.heap.size W u → u.cell? ⟨w.heap.size + 1 + 1, 0, none⟩ = some (.int .i64 0) ∧ u.cell? ⟨w.heap.size + 1 + 1, 1, none⟩ = some (.slice (some ⟨w.heap.size + 1, 0, none⟩) 1 1) ∧ u.cell? ⟨w.heap.size + 1 + 1 + 1, 2, none⟩ = some (.slice (some ⟨w.heap.size + 1 + 1, 0, none⟩) 1 1)) := Lib.hid fun hb => by
    refine ⟨(hb.cell (p := ⟨w.heap.size + 1 + 1, 0, none⟩) hlt2).trans ?_, (hb.cell (p := ⟨w.heap.size + 1 + 1, 1, none⟩) hlt2).trans ?_, (hb.cell (p := ⟨w.heap.size + 1 + 1 + 1, 2, none⟩) hlt3).trans (hc 2)⟩
    · simp [World.cell?, HA.out.b2]
    · simp [World.cell?, HA.out.b2]
  have HLV := Lib.hid live_vals
  clear hc hsz hlt3 hlt2 hg hv7
  go_wp2_with (first
    | (go_at_call 25; (with_reducible refine (copy_none _).mono ?_); rintro e u ⟨rfl, rfl⟩)
    | (go_at_call 23; (with_reducible refine HSM.out.mono ?_); rintro e w4 ⟨b, rfl, hbe, hb4⟩; obtain rfl : b = true := hbe.2 (plainProg_twice _).symm; have hbw := keepB HBX.out hb4; obtain ⟨hx0, hx1, hx2⟩ := HFQ.out hbw; have HB4 := Lib.hid (keepB HB2.out hb4); have HFN := Lib.hid (FuncQ.lasts _ _ _ _ hbw HA.out.func); clear hb4 hbw hbe)
    | (go_at_call 26; (with_reducible refine (code_values 0 (some ⟨w.heap.size + 1, 0, none⟩) 1 1 liveFunc _ HFN.out).mono ?_); rintro e w5 ⟨rfl, hb5⟩; rw [HLV.out]; have HB5 := Lib.hid (keepB HB4.out hb5); clear hb5))
  go_ret
  exact ⟨rfl, HB5.out⟩
end Go.Proofs.YtfnkmigcklmghaaDoor

/- Layer 5: the document's Small: a program that it calls small has no list that is too long for a copy. -/
namespace Go.Proofs.YtfnkmigcklmghaaDoor
open Go.RowKit (wrap64 intOf Below)
set_option linter.unusedVariables false
set_option linter.unusedSimpArgs false

def SmallPost (P : ProgD) (w : World) (e : Ending) (w' : World) : Prop := ∃ b : Bool, e = .returned (.bool b) ∧ (b = true → SmProg P) ∧ Below w.heap.size w w'
theorem all_take {α : Type} {R : α → Prop} {xs : List α} {i : Nat} (h : i < xs.length) (h1 : ∀ x ∈ xs.take i, R x) (h2 : R xs[i]) : ∀ x ∈ xs.take (i + 1), R x := by
  intro x hx
  rw [List.take_succ_eq_append_getElem h] at hx
  rcases List.mem_append.1 hx with h' | h'
  · exact h1 x h'
  · simp only [List.mem_singleton] at h'; subst h'; exact h2
set_option maxRecDepth 100000 in
set_option maxHeartbeats 8000000 in
theorem ref_small (g off : Nat) (sa : Option Addr) (sn sc : Nat) (ca : Option Addr) (cn cc : Nat) (fa : Option Addr) (fn fc : Nat) (P : ProgD) (w : World) (hg : g < w.heap.size)
    (hc0 : w.cell? ⟨g, off, none⟩ = some (.slice sa sn sc)) (hc1 : w.cell? ⟨g, off + 1, none⟩ = some (.slice ca cn cc)) (hc2 : w.cell? ⟨g, off + 2, none⟩ = some (.slice fa fn fc))
    (hP : ProgQ w [.slice sa sn sc, .slice ca cn cc, .slice fa fn fc] P) :
    Calls Tryd.prog 8 #[.pointer (some ⟨g, off, none⟩), .int .i64 4000] w (SmallPost P w) := by
  obtain ⟨_, _, _, he, hS, hC, hF⟩ := hP
  simp only [List.cons.injEq, and_true] at he
  obtain ⟨rfl, rfl, rfl⟩ := he
  obtain ⟨hsl, hsm⟩ := rowV_len' hS
  obtain ⟨hcl, hcm⟩ := rowV_len' hC
  obtain ⟨hfl, hfm⟩ := rowV_len' hF
  have HS := Lib.hid hS
  have HC := Lib.hid hC
  have HF := Lib.hid hF
  have HSL := Lib.hid hsl
  have HCL := Lib.hid hcl
  have HFL := Lib.hid hfl
  clear hS hC hF hsl hcl hfl
  go_enter Tryd.func8, Tryd.ntmps8
  go_wp2_with fail
  go_quiet (fail)
  go_wp2_with fail
  go_loopw [5, 6] (fun nv iv wr => ∃ n i : Nat, i ≤ sn ∧ sn + cn + fn ≤ n ∧ n ≤ 1000000000000000 ∧ nv = .int .i64 (n : Int) ∧ iv = .int .i64 (i : Int) ∧ ∃ q, wr = w.drewN q) (fun _ iv _ => sn - (intOf iv).toNat)
  case atStart => exact ⟨sn + cn + fn, 0, Nat.zero_le _, Nat.le_refl _, by omega, by go_num, rfl, _, rfl⟩
  case round =>
    obtain ⟨n, i, hi, hn0, hn1, rfl, rfl, q, rfl⟩ := hrel
    by_cases hlt : i < sn
    · by_cases hn4 : n ≤ 4000
      · have hn4' : (n : Int) ≤ 4000 := by omega
        obtain ⟨g1, o1, rfl, hg1, hcs1⟩ := rowV_at HS.out (by omega)
        have hi1 : i < P.sigs.length := by rw [HSL.out]; exact hlt
        obtain ⟨cs1, hc21, hcell1, hq1⟩ := hcs1 i hi1
        obtain ⟨v1, rfl, ⟨pa, pn, pc, rfl, hpat, _, hpm, _⟩, _⟩ := hq1
        have hd0 := hcell1 0 (by simp)
        simp only [Nat.add_zero, List.getElem_cons_zero] at hd0
        clear hcell1 hcs1 hpat
        go_wp2_with fail
        go_roundw
        case rel => exact ⟨n + pn, i + 1, by omega, by omega, by omega, by go_num, by go_num, _, rfl⟩
        case measure => simp [intOf]; omega
      · have hn4' : ¬ (n : Int) ≤ 4000 := by omega
        go_wp2_with fail
        go_loopw [5, 7] (fun nv iv wr => nv = .int .i64 (n : Int) ∧ iv = .int .i64 0 ∧ ∃ q, wr = w.drewN q) (fun _ _ _ => 0)
        case atStart => exact ⟨rfl, rfl, _, rfl⟩
        case round =>
          obtain ⟨rfl, rfl, q, rfl⟩ := hrel
          by_cases hlt2 : 0 < cn
          · go_wp2_with fail
            go_loopw [5, 8] (fun nv iv wr => nv = .int .i64 (n : Int) ∧ iv = .int .i64 0 ∧ ∃ q, wr = w.drewN q) (fun _ _ _ => 0)
            case atStart => exact ⟨rfl, rfl, _, rfl⟩
            case round =>
              obtain ⟨rfl, rfl, q, rfl⟩ := hrel
              by_cases hlt3 : 0 < fn
              · go_wp2_with fail
                go_ret
                exact ⟨_, rfl, fun h => absurd h (by first | (simp; done) | (simp; omega)), below_drewN _ (Below.refl _ _)⟩
              · obtain rfl : fn = 0 := by omega
                go_wp2_with fail
                go_ret
                exact ⟨_, rfl, fun h => absurd h (by first | (simp; done) | (simp; omega)), below_drewN _ (Below.refl _ _)⟩
          · obtain rfl : cn = 0 := by omega
            go_wp2_with fail
            go_loopw [5, 8] (fun nv iv wr => nv = .int .i64 (n : Int) ∧ iv = .int .i64 0 ∧ ∃ q, wr = w.drewN q) (fun _ _ _ => 0)
            case atStart => exact ⟨rfl, rfl, _, rfl⟩
            case round =>
              obtain ⟨rfl, rfl, q, rfl⟩ := hrel
              by_cases hlt3 : 0 < fn
              · go_wp2_with fail
                go_ret
                exact ⟨_, rfl, fun h => absurd h (by first | (simp; done) | (simp; omega)), below_drewN _ (Below.refl _ _)⟩
              · obtain rfl : fn = 0 := by omega
                go_wp2_with fail
                go_ret
                exact ⟨_, rfl, fun h => absurd h (by first | (simp; done) | (simp; omega)), below_drewN _ (Below.refl _ _)⟩
    · go_wp2_with fail
      go_loopw [5, 7] (fun nv iv wr => ∃ n i : Nat, i ≤ cn ∧ sn + cn + fn ≤ n ∧ n ≤ 1000000000000000 ∧ nv = .int .i64 (n : Int) ∧ iv = .int .i64 (i : Int) ∧ ∃ q, wr = w.drewN q) (fun _ iv _ => cn - (intOf iv).toNat)
      case atStart => exact ⟨n, 0, Nat.zero_le _, by omega, by omega, rfl, rfl, _, rfl⟩
      case round =>
        clear hi hn0 hn1
        obtain ⟨n, i, hi, hn0, hn1, rfl, rfl, q, rfl⟩ := hrel
        by_cases hlt : i < cn
        · by_cases hn4 : n ≤ 4000
          · have hn4' : (n : Int) ≤ 4000 := by omega
            obtain ⟨g1, o1, rfl, hg1, hcs1⟩ := rowV_at HC.out (by omega)
            have hi1 : i < P.classes.length := by rw [HCL.out]; exact hlt
            obtain ⟨cs1, hc21, hcell1, hq1⟩ := hcs1 i hi1
            obtain ⟨v1, v2, rfl, ⟨pa, pn, pc, rfl, hpat, _, hpm, _⟩, ⟨ma, mn, mc, rfl, hmat, _, hmm, _⟩⟩ := hq1
            have hd0 := hcell1 0 (by simp)
            have hd1 := hcell1 1 (by simp)
            simp only [Nat.add_zero, List.getElem_cons_zero, List.getElem_cons_succ] at hd0 hd1
            clear hcell1 hcs1 hpat hmat
            go_wp2_with fail
            go_quiet (fail)
            go_wp2_with fail
            go_roundw
            case rel => exact ⟨n + pn + mn, i + 1, by omega, by omega, by omega, by go_num, by go_num, _, rfl⟩
            case measure => simp [intOf]; omega
          · have hn4' : ¬ (n : Int) ≤ 4000 := by omega
            go_wp2_with fail
            go_loopw [5, 8] (fun nv iv wr => nv = .int .i64 (n : Int) ∧ iv = .int .i64 0 ∧ ∃ q, wr = w.drewN q) (fun _ _ _ => 0)
            case atStart => exact ⟨rfl, rfl, _, rfl⟩
            case round =>
              obtain ⟨rfl, rfl, q, rfl⟩ := hrel
              by_cases hlt3 : 0 < fn
              · go_wp2_with fail
                go_ret
                exact ⟨_, rfl, fun h => absurd h (by first | (simp; done) | (simp; omega)), below_drewN _ (Below.refl _ _)⟩
              · obtain rfl : fn = 0 := by omega
                go_wp2_with fail
                go_ret
                exact ⟨_, rfl, fun h => absurd h (by first | (simp; done) | (simp; omega)), below_drewN _ (Below.refl _ _)⟩
        · go_wp2_with fail
          go_loopw [5, 8] (fun nv iv wr => ∃ n i : Nat, i ≤ fn ∧ sn + cn + fn ≤ n ∧ n ≤ 1000000000000000 ∧ nv = .int .i64 (n : Int) ∧ iv = .int .i64 (i : Int) ∧ RowKit.Hid ((n ≤ 4000 → ∀ f ∈ P.funcs.take i, SmFunc f) ∧ Below w.heap.size w wr)) (fun _ iv _ => fn - (intOf iv).toNat)
          case atStart => exact ⟨n, 0, Nat.zero_le _, by omega, by omega, rfl, rfl, Lib.hid ⟨fun _ x hx => by simp at hx, below_drewN _ (Below.refl _ _)⟩⟩
          case round =>
            clear hi hn0 hn1
            obtain ⟨n, i, hi, hn0, hn1, rfl, rfl, HI⟩ := hrel
            have hb0 := (HI.out.2.cell (p := ⟨g, off, none⟩) hg).trans hc0
            have hb1 := (HI.out.2.cell (p := ⟨g, off + 1, none⟩) hg).trans hc1
            have hb2 := (HI.out.2.cell (p := ⟨g, off + 2, none⟩) hg).trans hc2
            by_cases hlt : i < fn
            · by_cases hn4 : n ≤ 4000
              · have hn4' : (n : Int) ≤ 4000 := by omega
                obtain ⟨g1, o1, rfl, hg1, hcs1⟩ := rowV_at (HF.out.since FuncQ.lasts HI.out.2) (by omega)
                have hi1 : i < P.funcs.length := by rw [HFL.out]; exact hlt
                obtain ⟨cs1, hc21, hcell1, hq1⟩ := hcs1 i hi1
                obtain ⟨X, hX⟩ : ∃ X, X = P.funcs[i] := ⟨_, rfl⟩
                rw [← hX] at hq1
                obtain ⟨v1, rfl, _, hrow⟩ := hq1
                obtain ⟨ba, bn, bc, rfl, hbl, _⟩ := id hrow
                have hbm := (rowV_len' hrow).2
                have hd1 := hcell1 1 (by simp)
                simp only [List.getElem_cons_zero, List.getElem_cons_succ] at hd1
                have HR := Lib.hid hrow
                have HX := Lib.hid hX
                have HBL := Lib.hid hbl
                clear hcell1 hcs1 hrow hX hbl hc21
                go_wp2_with fail
                obtain ⟨w3, rfl⟩ : ∃ u, u = wr := ⟨wr, rfl⟩
                go_loopw [5, 9] (fun nv kv wk => ∃ n2 k : Nat, k ≤ bn ∧ n + bn ≤ n2 ∧ n2 ≤ 1000000000000000 ∧ nv = .int .i64 (n2 : Int) ∧ kv = .int .i64 (k : Int) ∧ RowKit.Hid ((n2 ≤ 4000 → ∀ b ∈ X.blocks.take k, SmBlock b) ∧ Below w3.heap.size w3 wk)) (fun _ kv _ => bn - (intOf kv).toNat)
                case atStart => exact ⟨n + bn, 0, Nat.zero_le _, Nat.le_refl _, by omega, by go_num, rfl, Lib.hid ⟨fun _ x hx => by simp at hx, Below.refl _ _⟩⟩
                case round =>
                  obtain ⟨n2, k, hk, hk0, hk9, rfl, rfl, HK⟩ := hrel
                  have hw0 : g < w3.heap.size := Nat.lt_of_lt_of_le hg HI.out.2.size
                  have hf2 := (HK.out.2.cell (p := ⟨g, off + 2, none⟩) hw0).trans hb2
                  have hfd := (HK.out.2.cell (p := ⟨g1, o1 + i * 2 + 1, none⟩) hg1).trans hd1
                  by_cases hlk : k < bn
                  · by_cases hn5 : n2 ≤ 4000
                    · have hn5' : (n2 : Int) ≤ 4000 := by omega
                      obtain ⟨g2, o2, rfl, hg2, hcs2⟩ := rowV_at (HR.out.since BlockQ.lasts HK.out.2) (by omega)
                      have hk1 : k < X.blocks.length := by rw [HBL.out]; exact hlk
                      obtain ⟨cs2, hc82, hcell2, hbq2⟩ := hcs2 k hk1
                      obtain ⟨Y, hY⟩ : ∃ Y, Y = X.blocks[k] := ⟨_, rfl⟩
                      rw [← hY] at hbq2
                      obtain ⟨pa, pn, pc, oa, on, oc, la, ln, lc, ma, mn, mc, rfl, hon⟩ := hbq2.form
                      have hpm := hbq2.params.2
                      have hom := (rowV_len' hbq2.ops).2
                      have hlm : ln ≤ 140737488351232 := by obtain ⟨_, _, e, _, _, _, _, ⟨_, _, _, rfl, _, _, h, _⟩, _⟩ := hbq2.fin; simp only [List.cons.injEq, Value.slice.injEq] at e; omega
                      have hmm : mn ≤ 140737488351232 := by obtain ⟨_, _, e, _, _, _, _, _, ⟨_, _, _, rfl, _, _, h, _⟩⟩ := hbq2.fin; simp only [List.cons.injEq, Value.slice.injEq] at e; omega
                      have hd10 := hcell2 0 (by simp)
                      have hd11 := hcell2 1 (by simp)
                      have hd12 := hcell2 2 (by simp)
                      have hd13 := hcell2 3 (by simp)
                      have hd14 := hcell2 4 (by simp)
                      have hd15 := hcell2 5 (by simp)
                      have hd16 := hcell2 6 (by simp)
                      have hd17 := hcell2 7 (by simp)
                      simp only [Nat.add_zero, List.getElem_cons_zero, List.getElem_cons_succ] at hd10 hd11 hd12 hd13 hd14 hd15 hd16 hd17
                      have HOY := Lib.hid hbq2.ops
                      have HYL := Lib.hid hon
                      have HY := Lib.hid hY
                      clear hcell2 hcs2 hbq2 hY hon hc82
                      go_wp2_with fail
                      have hal : Below wr.heap.size wr (wr.alloc (.cells #[.slice pa pn pc, .slice oa on oc, .int .i64 Y.fin.K, .int .i64 Y.fin.A, .int .i64 Y.fin.To, .int .i64 Y.fin.Else, .slice la ln lc, .slice ma mn mc] 59)) := (Below.refl _ _).alloc (Nat.le_refl _) _
                      have hblk := heap_alloc_new wr (.cells #[.slice pa pn pc, .slice oa on oc, .int .i64 Y.fin.K, .int .i64 Y.fin.A, .int .i64 Y.fin.To, .int .i64 Y.fin.Else, .slice la ln lc, .slice ma mn mc] 59)
                      obtain ⟨w4, rfl⟩ : ∃ u, u = wr := ⟨wr, rfl⟩
                      generalize (w4.alloc (.cells #[.slice pa pn pc, .slice oa on oc, .int .i64 Y.fin.K, .int .i64 Y.fin.A, .int .i64 Y.fin.To, .int .i64 Y.fin.Else, .slice la ln lc, .slice ma mn mc] 59)) = wy at hal hblk ⊢
                      have hby1 : wy.cell? ⟨w4.heap.size, 1, none⟩ = some (.slice oa on oc) := by simp [World.cell?, hblk]
                      have hby : w4.heap.size < wy.heap.size := (Array.getElem?_eq_some_iff.1 hblk).1
                      have HBY := Lib.hid hal
                      clear hal hblk hd10 hd11 hd12 hd13 hd14 hd15 hd16 hd17
                      go_loopw [5, 11] (fun nv jv wj => ∃ n3 j : Nat, j ≤ on ∧ n2 + pn + on + ln + mn ≤ n3 ∧ n3 ≤ 1000000000000000 ∧ nv = .int .i64 (n3 : Int) ∧ jv = .int .i64 (j : Int) ∧ RowKit.Hid (Below wy.heap.size wy wj)) (fun _ jv _ => on - (intOf jv).toNat)
                      case atStart => exact ⟨n2 + pn + on + ln + mn, 0, Nat.zero_le _, Nat.le_refl _, by omega, by go_num, rfl, Lib.hid (Below.refl _ _)⟩
                      case round =>
                        obtain ⟨n3, j, hj, hj0, hj1, rfl, rfl, HJ⟩ := hrel
                        have hy1 := (HJ.out.cell (p := ⟨w4.heap.size, 1, none⟩) hby).trans hby1
                        by_cases hlj : j < on
                        · by_cases hn6 : n3 ≤ 4000
                          · have hn6' : (n3 : Int) ≤ 4000 := by omega
                            obtain ⟨g3, o3, rfl, hg3, hcs3⟩ := rowV_at ((HOY.out.since OpQ.lasts HBY.out).since OpQ.lasts HJ.out) (by omega)
                            have hj9 : j < Y.ops.length := by rw [HYL.out]; exact hlj
                            obtain ⟨cs3, hc83, hcell3, hoq3⟩ := hcs3 j hj9
                            obtain ⟨O, hO⟩ : ∃ O, O = Y.ops[j] := ⟨_, rfl⟩
                            rw [← hO] at hoq3
                            obtain ⟨l3, rfl, _, _, _, _, _, hos, ⟨la3, ln3, lc3, rfl, hlat, _, hlm, _⟩⟩ := hoq3
                            have hm5 := hcell3 5 (by simp)
                            have hm6 := hcell3 6 (by simp)
                            simp only [List.getElem_cons_zero, List.getElem_cons_succ] at hm5 hm6
                            have hq8 : ((O.S.size : Nat) : Int).tdiv 8 = ((O.S.size / 8 : Nat) : Int) := rfl
                            have hs8 : O.S.size / 8 ≤ 140737488351232 := by omega
                            clear hcell3 hcs3 hlat hO hc83
                            go_wp2_with fail
                            go_quiet (fail)
                            go_wp2_with fail
                            go_roundw
                            case rel => exact ⟨n3 + ln3 + O.S.size / 8, j + 1, by omega, by omega, by omega, by go_num, by go_num, Lib.hid (below_drewN _ HJ.out)⟩
                            case measure => simp [intOf]; omega
                          · have hn6' : ¬ (n3 : Int) ≤ 4000 := by omega
                            go_wp2_with fail
                            go_roundw
                            case rel => exact ⟨n3, k + 1, by omega, by omega, by omega, rfl, by go_num, Lib.hid ⟨fun h4 => all_take hk1 (HK.out.1 (by omega)) (by have h6 := HYL.out; have h5 : SmBlock Y := (by unfold SmBlock; omega); exact HY.out ▸ h5), keepB HK.out.2 (keepB HBY.out HJ.out)⟩⟩
                            case measure => simp [intOf]; omega
                        · obtain rfl : j = on := by omega
                          go_wp2_with fail
                          go_roundw
                          case rel => exact ⟨n3, k + 1, by omega, by omega, by omega, rfl, by go_num, Lib.hid ⟨fun h4 => all_take hk1 (HK.out.1 (by omega)) (by have h6 := HYL.out; have h5 : SmBlock Y := (by unfold SmBlock; omega); exact HY.out ▸ h5), keepB HK.out.2 (keepB HBY.out HJ.out)⟩⟩
                          case measure => simp [intOf]; omega
                    · have hn5' : ¬ (n2 : Int) ≤ 4000 := by omega
                      go_wp2_with fail
                      go_roundw
                      case rel => exact ⟨n2, i + 1, by omega, by omega, by omega, rfl, by go_num, Lib.hid ⟨fun h4 => all_take hi1 (HI.out.1 (by omega)) (by exact absurd h4 hn5), keepB HI.out.2 HK.out.2⟩⟩
                      case measure => simp [intOf]; omega
                  · obtain rfl : k = bn := by omega
                    go_wp2_with fail
                    go_roundw
                    case rel => exact ⟨n2, i + 1, by omega, by omega, by omega, rfl, by go_num, Lib.hid ⟨fun h4 => all_take hi1 (HI.out.1 (by omega)) (by have h5 : SmFunc X := ⟨by have := HBL.out; omega, fun b hb => HK.out.1 h4 b (by rw [List.take_of_length_le (by have := HBL.out; omega)]; exact hb)⟩; exact HX.out ▸ h5), keepB HI.out.2 HK.out.2⟩⟩
                    case measure => simp [intOf]; omega
              · have hn4' : ¬ (n : Int) ≤ 4000 := by omega
                go_wp2_with fail
                go_ret
                exact ⟨_, rfl, fun h => absurd h (by first | (simp; done) | (simp; omega)), HI.out.2⟩
            · obtain rfl : i = fn := by omega
              go_wp2_with fail
              go_ret
              refine ⟨_, rfl, fun h => ?_, HI.out.2⟩
              have h4 : n ≤ 4000 := by simp at h; omega
              exact ⟨by have := HSL.out; omega, by have := HCL.out; omega, by have := HFL.out; omega, fun f hf => HI.out.1 h4 f (by rw [List.take_of_length_le (by rw [HFL.out]; exact Nat.le_refl _)]; exact hf)⟩
end Go.Proofs.YtfnkmigcklmghaaDoor

/- Layer 5, plain: what a program's bytes are as an answer: no error is 0, there is a byte, of a beginning and with a byte more they are none (P5.5). -/
namespace Go.Proofs.YtfnkmigcklmghaaDoor
open Go.RowKit (wrap64 intOf Below)
set_option linter.unusedVariables false

/-- None of its errors is 0. -/
def OutNZ (o : Out) : Prop := ∀ e, o = .no e → e ≠ 0
theorem OutNZ.ok (l : List UInt8) : OutNZ (.ok l) := fun e h => by cases h
theorem OutNZ.and {a b : Out} (h : OutNZ a) (h' : OutNZ b) : OutNZ (a.and b) := by
  intro e he
  cases a with
  | no x => simp only [Out.no_and, Out.no.injEq] at he; subst he; exact h _ rfl
  | ok l => cases b with
    | no y => simp only [Out.and, Out.no.injEq] at he; subst he; exact h' _ rfl
    | ok m => simp only [Out.and] at he; cases he
theorem OutNZ.check (b : Bool) {e : Int} (h : e ≠ 0) : OutNZ (chk b e) := by
  intro x hx
  unfold chk at hx
  split at hx
  · cases hx
  · cases hx; exact h
theorem OutNZ.all {α : Type} {f : α → Out} (h : ∀ x, OutNZ (f x)) : ∀ xs, OutNZ (encAll f xs)
  | [] => OutNZ.ok _
  | x :: xs => (h x).and (OutNZ.all h xs)
theorem OutNZ.list {α : Type} {f : α → Out} (most : Nat) (h : ∀ x, OutNZ (f x)) (xs : List α) : OutNZ (encList most f xs) := ((OutNZ.ok _).and (OutNZ.check _ (by decide))).and (OutNZ.all h xs)
theorem OutNZ.num (z : Int) : OutNZ (encN z) := OutNZ.ok _
theorem OutNZ.nums (most : Nat) (Z : List Int) : OutNZ (encNums most Z) := OutNZ.list most OutNZ.num Z
theorem OutNZ.below (n b : Int) : OutNZ (outBelow n b) := (OutNZ.num n).and (OutNZ.check _ (by decide))
theorem OutNZ.op (o : OpD) : OutNZ (encOp o) := (OutNZ.below _ _).and (OutNZ.all (fun f => by
  unfold encField
  repeat' split
  all_goals first | exact OutNZ.num _ | exact OutNZ.nums _ _ | exact (OutNZ.check _ (by decide)).and (OutNZ.ok _)) _)
theorem OutNZ.fin (e : EndD) : OutNZ (encEnd e) := (OutNZ.below _ _).and (by
  unfold encRest
  repeat' split
  · exact (OutNZ.num _).and (OutNZ.nums _ _)
  · exact (OutNZ.num _).and ((OutNZ.num _).and ((OutNZ.nums _ _).and ((OutNZ.num _).and (OutNZ.nums _ _))))
  · exact OutNZ.num _)
theorem OutNZ.block (b : BlockD) : OutNZ (encBlock b) := (OutNZ.nums _ _).and ((OutNZ.list _ OutNZ.op _).and (OutNZ.fin _))
theorem OutNZ.func (f : FuncD) : OutNZ (encFunc f) := (OutNZ.num _).and (OutNZ.list _ OutNZ.block _)
theorem OutNZ.sig (s : SigD) : OutNZ (encSig s) := (OutNZ.nums _ _).and (OutNZ.num _)
theorem OutNZ.cls (s : ClassD) : OutNZ (encClass s) := (OutNZ.nums _ _).and (OutNZ.nums _ _)
theorem OutNZ.prog (p : ProgD) : OutNZ (encProg p) := (OutNZ.list _ OutNZ.sig _).and ((OutNZ.list _ OutNZ.cls _).and (OutNZ.list _ OutNZ.func _))
theorem out_nz (P : ProgD) : OutNZ (outBytes (encProg P)) := by
  intro e h
  unfold outBytes at h
  split at h
  · rename_i x hx
    cases h
    exact OutNZ.prog P _ hx
  · split at h
    · cases h; decide
    · cases h

/-- The bytes of a program: what is read of them, of a beginning, with a byte more. -/
theorem out_takes {P : ProgD} (hr : RngProg P) {l : List UInt8} (h : outBytes (encProg (plainProg P)) = .ok l) : Takes rdProg l (plainProg P) ∧ l.length ≤ 65536 := by
  obtain ⟨_, h2, h3⟩ := in_out hr h
  have ht := takes_prog _ _ hr.plain h3
  rw [plainProg_twice] at ht
  exact ⟨ht, h2⟩
theorem out_some {P : ProgD} (hr : RngProg P) {l : List UInt8} (h : outBytes (encProg (plainProg P)) = .ok l) : 0 < l.length := by
  have ht := (out_takes hr h).1.1 []
  match l, ht with
  | [], ht => simp [rdProg, rdList, rdCount, rdNum, takeL, PR.bind] at ht
  | c :: r, _ => simp
theorem in_cut {P : ProgD} (hr : RngProg P) {l : List UInt8} (h : outBytes (encProg (plainProg P)) = .ok l) (j : Nat) (hj : j < l.length) : inBytes (l.take j) = .no 3 := by
  obtain ⟨ht, hl⟩ := out_takes hr h
  unfold inBytes
  rw [if_neg (by rw [List.length_take]; omega), ht.2 j hj]
  rfl
theorem in_more {P : ProgD} (hr : RngProg P) {l : List UInt8} (h : outBytes (encProg (plainProg P)) = .ok l) : inBytes (l ++ [0]) = .no (if l.length = 65536 then 2 else 4) := by
  obtain ⟨ht, hl⟩ := out_takes hr h
  unfold inBytes
  by_cases h6 : l.length = 65536
  · rw [if_pos (by simp; omega), if_pos h6]
  · rw [if_neg (by simp; omega), if_neg h6, ht.1 [0]]
    rfl
theorem DecPost.no {p : PR ProgD} {er : Int} {w : World} {e : Ending} {w' : World} (h : DecPost p w e w') (hp : p = .no er) : e = .returned (.tuple #[.pointer none, .int .i64 er]) ∧ Below w.heap.size w w' := by
  rcases h with ⟨P', g, s, c, f, h1, _⟩ | ⟨er', h1, _, h3, h4⟩
  · rw [hp] at h1; cases h1
  · rw [hp] at h1; cases h1; exact ⟨h3, h4⟩
theorem EncPost.no {o : Out} {er : Int} {w : World} {e : Ending} {w' : World} (h : EncPost o w e w') (ho : o = .no er) : e = .returned (.tuple #[.slice none 0 0, .int .i64 er]) ∧ Below w.heap.size w w' := by
  rcases h with ⟨l', va, vn, vc, h1, _⟩ | ⟨er', h1, h2, h3⟩
  · rw [ho] at h1; cases h1
  · rw [ho] at h1; cases h1; exact ⟨h2, h3⟩
theorem OwnsB.before {w : World} {B : Nat} {e : TypeId} {a : Option Addr} {n c : Nat} {l : List UInt8} (h : OwnsB w B e (.slice a n c) l) : ∀ ad, a = some ad → ad.block < w.heap.size := by
  intro ad ha
  subst ha
  rcases h.2 with ⟨h1, _⟩ | ⟨g, cap, cur, h1, _, hg, _⟩
  · cases h1
  · cases h1
    exact (Array.getElem?_eq_some_iff.1 hg).1
end Go.Proofs.YtfnkmigcklmghaaDoor

/- Layer 5: the document's reader (D): its lists of numbers. -/
namespace Go.Proofs.YtfnkmigcklmghaaDoor
open Go.RowKit (wrap64 intOf Below)
set_option linter.unusedVariables false
set_option linter.unusedSimpArgs false
attribute [local go_sem ↓] Go.wp_at_zero Go.wp_at_succ

section
variable {α β : Type} {L : List UInt8} {p p1 p2 : Nat} {y y1 y2 : Int}
theorem Ran.bind {f : List UInt8 → PR α} {g : α → List UInt8 → PR β} {x : α} {z : β} (h1 : Ran f L p y p1 y1 x) (h2 : Ran (g x) L p1 y1 p2 y2 z) : Ran (fun l => (f l).bind g) L p y p2 y2 z := by
  refine ⟨fun hy => ?_, fun hy => ⟨fun h => ?_, fun h => ?_⟩⟩
  · have e := h1.1 hy
    exact (h2.1 (by rw [e]; exact hy)).trans e
  · have h0 : y1 = 0 := Classical.byContradiction fun hn => hn ((h2.1 hn).symm.trans h)
    simp only [(h1.2 hy).1 h0, PR.bind]
    exact (h2.2 h0).1 h
  · by_cases h0 : y1 = 0
    · simp only [(h1.2 hy).1 h0, PR.bind]
      exact (h2.2 h0).2 h
    · rw [h2.1 h0]
      simp only [(h1.2 hy).2 h0, PR.bind]
theorem Ran.pure (x : α) : Ran (fun l => PR.ok x l) L p y p y x := ⟨fun _ => rfl, fun hy => ⟨fun _ => rfl, fun h => absurd hy h⟩⟩
theorem Ran.of {f g : List UInt8 → PR α} {x : α} (h : Ran f L p y p1 y1 x) (he : ∀ l, f l = g l) : Ran g L p y p1 y1 x := by
  have e : f = g := funext he
  rw [← e]; exact h
theorem rdTimes_stays {f : List UInt8 → PR α} {l : List UInt8} {e : Int} {i : Nat} (h : rdTimes f i l = .no e) : ∀ {k : Nat}, i ≤ k → rdTimes f k l = .no e
  | 0, hk => by obtain rfl : i = 0 := by omega
                exact h
  | k + 1, hk => by
    by_cases he : i = k + 1
    · rw [← he]; exact h
    · rw [rdTimes_more, rdTimes_stays h (show i ≤ k by omega)]; rfl
theorem Ran.times0 {f : List UInt8 → PR α} : Ran (rdTimes f 0) L p y p y [] := Ran.pure []
theorem Ran.snoc {f : List UInt8 → PR α} {i : Nat} {xs : List α} {x : α} (h1 : Ran (rdTimes f i) L p y p1 y1 xs) (h2 : Ran f L p1 y1 p2 y2 x) : Ran (rdTimes f (i + 1)) L p y p2 y2 (xs ++ [x]) :=
  (h1.bind (g := fun xs r => (f r).bind fun x r' => .ok (xs ++ [x]) r') (h2.bind (Ran.pure _))).of (fun l => (rdTimes_more f i l).symm)
theorem Ran.enough {f : List UInt8 → PR α} {i k : Nat} {xs : List α} (h : Ran (rdTimes f i) L p y p1 y1 xs) (hk : i ≤ k) (hn : i = k ∨ y1 ≠ 0) : Ran (rdTimes f k) L p y p1 y1 xs := by
  rcases hn with rfl | hn
  · exact h
  · exact ⟨h.1, fun hy => ⟨fun h0 => absurd h0 hn, fun _ => rdTimes_stays ((h.2 hy).2 hn) hk⟩⟩
end
/-- A row of the call's own behind a reader's call. -/
theorem ownsRow_off {w w' : World} {d base B e k n : Nat} {v : Value} {xs : List Value} (h : w.ownsRow base e k v n xs) (ho : Off (fun i => i = d) w w') (hB : ∀ b, v.ownBlock = some b → B ≤ b) (hd : d < B) : w'.ownsRow base e k v n xs :=
  ownsRow_heap h (fun b hb hlt => ho.block b hlt (fun he => by have := hB b hb; omega))
/-- A reader's call, and then what turns new blocks alone. -/
theorem Off.news {d : Nat} {w w1 w2 : World} (h : Off (fun k => k = d) w w1) (hb : Below w.heap.size w1 w2) : Off (fun k => k = d) w w2 :=
  h.trans_new (Y := fun k => w.heap.size ≤ k) (Off.of_below hb (fun i hi _ => hi)) (fun i hi => .inr hi)
def NumsOV (w : World) (S : Nat → Prop) (v : Value) (Z : List Int) : Prop := (∃ a n c, v = .slice a n c) ∧ NumsO w S v Z

end Go.Proofs.YtfnkmigcklmghaaDoor

/- Layer 5: the document's writer (W): where it stands, and its calls bad, num, list. -/
namespace Go.Proofs.YtfnkmigcklmghaaDoor
open Go.RowKit (wrap64 intOf Below)
set_option linter.unusedVariables false
set_option linter.unusedSimpArgs false
attribute [local go_sem ↓] Go.wp_at_zero Go.wp_at_succ

/-- The writer in block d has the bytes l (of its own, behind d), and what is wrong. -/
structure VSt (d : Nat) (va : Option Addr) (vn vc : Nat) (l : List UInt8) (w : World) (y : Int) : Prop where
  box : w.heap[d]? = some (.cells #[.slice va vn vc, .int .i64 y] 71 (0, 0))
  own : OwnsB w (d + 1) 5 (.slice va vn vc) l
section
variable {d : Nat} {va : Option Addr} {vn vc : Nat} {l : List UInt8} {w u : World} {y : Int}
theorem VSt.lt (h : VSt d va vn vc l w y) : d < w.heap.size := (Array.getElem?_eq_some_iff.1 h.box).1
theorem VSt.c0 (h : VSt d va vn vc l w y) : w.cell? ⟨d, 0, none⟩ = some (.slice va vn vc) := by simp [World.cell?, h.box]
theorem VSt.c1 (h : VSt d va vn vc l w y) : w.cell? ⟨d, 1, none⟩ = some (.int .i64 y) := by simp [World.cell?, h.box]
theorem VSt.free (h : VSt d va vn vc l w y) (j : Nat) : w.frozen? ⟨d, j, none⟩ = false := by simp [World.frozen?, h.box]
theorem VSt.since (h : VSt d va vn vc l w y) (hb : Below w.heap.size w u) : VSt d va vn vc l u y := ⟨(hb.block d h.lt).trans h.box, h.own.below hb⟩
theorem VSt.note (h : VSt d va vn vc l w y) (z : Int) : VSt d va vn vc l (w.setCell ⟨d, 1, none⟩ (.int .i64 z)) z :=
  ⟨by have := heap_setCell_same w d 1 _ _ (.int .i64 z) h.box; simpa using this, ownsRow_heap h.own (fun b hb hlt => Below.heap_setCell _ _ _ _ (fun he => by have := (h.own.lt b hb).1; simp only at he; omega))⟩
/-- New bytes. -/
theorem VSt.put {ua : Option Addr} {un uc : Nat} {m : List UInt8} (h : VSt d va vn vc l w y) (ho : OwnsB w (d + 1) 5 (.slice ua un uc) m) : VSt d ua un uc m (w.setCell ⟨d, 0, none⟩ (.slice ua un uc)) y :=
  ⟨by have := heap_setCell_same w d 0 _ _ (.slice ua un uc) h.box; simpa using this, ownsRow_heap ho (fun b hb hlt => Below.heap_setCell _ _ _ _ (fun he => by have := (ho.lt b hb).1; simp only at he; omega))⟩
end
/-- What a writer's call did. -/
def Wrote (o : Out) (l : List UInt8) (y : Int) (l' : List UInt8) (y' : Int) : Prop :=
  (y ≠ 0 → y' = y) ∧ (y = 0 → (∀ m, o = .ok m → y' = 0 ∧ l' = l ++ m) ∧ (∀ e, o = .no e → y' = e ∧ e ≠ 0))
section
variable {l l1 l2 : List UInt8} {y y1 y2 : Int} {a b : Out}
theorem Wrote.and (h : Wrote a l y l1 y1) (k : Wrote b l1 y1 l2 y2) : Wrote (a.and b) l y l2 y2 := by
  refine ⟨fun hy => (k.1 (by rw [h.1 hy]; exact hy)).trans (h.1 hy), fun hy => ?_⟩
  cases a with
  | no e =>
    obtain ⟨h1, h2⟩ := (h.2 hy).2 e rfl
    refine ⟨fun m hm => by simp at hm, fun e' he => ?_⟩
    simp only [Out.no_and, Out.no.injEq] at he
    subst he
    exact ⟨(k.1 (by rw [h1]; exact h2)).trans h1, h2⟩
  | ok m =>
    obtain ⟨h1, h2⟩ := (h.2 hy).1 m rfl
    cases b with
    | no e =>
      refine ⟨fun m hm => by simp [Out.and] at hm, fun e' he => ?_⟩
      simp only [Out.and, Out.no.injEq] at he
      subst he
      exact (k.2 h1).2 e rfl
    | ok m2 =>
      refine ⟨fun m' hm => ?_, fun e' he => by simp [Out.and] at he⟩
      simp only [Out.and, Out.ok.injEq] at hm
      subst hm
      obtain ⟨k1, k2⟩ := (k.2 h1).1 m2 rfl
      exact ⟨k1, by rw [k2, h2, List.append_assoc]⟩
theorem Wrote.none_ : Wrote (.ok []) l y l y := ⟨fun _ => rfl, fun hy => ⟨fun m hm => by cases hm; exact ⟨hy, by simp⟩, fun e he => by cases he⟩⟩
theorem Wrote.went (h : Wrote a l y l1 y1) (h1 : y1 = 0) : y = 0 ∧ ∃ m, a = .ok m ∧ l1 = l ++ m := by
  have hy : y = 0 := Classical.byContradiction fun hy => hy ((h.1 hy).symm.trans h1)
  refine ⟨hy, ?_⟩
  cases a with
  | no e => obtain ⟨e1, e2⟩ := (h.2 hy).2 e rfl; exact absurd (e1.symm.trans h1) e2
  | ok m => exact ⟨m, rfl, ((h.2 hy).1 m rfl).2⟩
theorem Wrote.len {k : Nat} (h : Wrote a l y l1 y1) (h1 : y1 = 0) (hu : Upto a k) : l1.length ≤ l.length + k := by
  obtain ⟨_, m, rfl, rfl⟩ := h.went h1
  rw [List.length_append]
  have := hu m rfl
  omega
theorem Wrote.of (h : Wrote a l y l1 y1) (he : a = b) : Wrote b l y l1 y1 := he ▸ h
theorem Wrote.all0 {α : Type} {f : α → Out} (xs : List α) : Wrote (encAll f (xs.take 0)) l y l y := Wrote.none_
theorem Wrote.more {α : Type} {f : α → Out} {xs : List α} {i : Nat} (hi : i < xs.length) (h : Wrote (encAll f (xs.take i)) l y l1 y1) (k : Wrote (f xs[i]) l1 y1 l2 y2) : Wrote (encAll f (xs.take (i + 1))) l y l2 y2 :=
  (h.and k).of (encAll_take f xs i hi).symm
theorem Wrote.enough {α : Type} {f : α → Out} {xs : List α} {i : Nat} (h : Wrote (encAll f (xs.take i)) l y l1 y1) (hn : xs.length ≤ i ∨ y1 ≠ 0) : Wrote (encAll f xs) l y l1 y1 := by
  rcases hn with hn | hn
  · rwa [List.take_of_length_le hn] at h
  · refine ⟨h.1, fun hy => ?_⟩
    have hx : ∃ e, encAll f (xs.take i) = .no e := by
      cases ho : encAll f (xs.take i) with
      | no e => exact ⟨e, rfl⟩
      | ok m => exact absurd ((h.2 hy).1 m ho).1 hn
    obtain ⟨e, he⟩ := hx
    have hall : encAll f xs = .no e := by
      conv => lhs; rw [← List.take_append_drop i xs]
      rw [encAll_append, he, Out.no_and]
    rw [hall]
    exact ⟨fun m hm => (by cases hm), fun e' he' => by cases he'; exact (h.2 hy).2 e he⟩
end
theorem chk_num (b : Bool) (e : Int) (m : List UInt8) : (chk b e).and (.ok m) = (Out.ok m).and (chk b e) := by
  unfold chk
  cases b
  · simp [Out.and]
  · simp
def VPost (d : Nat) (l : List UInt8) (y : Int) (o : Out) (w : World) (e : Ending) (w' : World) : Prop :=
  ∃ ua un uc l' y', e = .returned (.tuple #[]) ∧ VSt d ua un uc l' w' y' ∧ Off (fun k => k = d) w w' ∧ Wrote o l y l' y'

set_option maxRecDepth 100000 in
set_option maxHeartbeats 2000000 in
theorem w_bad (d : Nat) (va : Option Addr) (vn vc : Nat) (l : List UInt8) (y : Int) (is : Bool) (er : Int) (her : er ≠ 0) (w : World) (h : VSt d va vn vc l w y) :
    Calls Tryd.prog 30 #[.pointer (some ⟨d, 0, none⟩), .bool is, .int .i64 er] w (VPost d l y (chk (!is) er) w) := by
  have hc1 := h.c1
  have hfr := h.free 1
  have H := Lib.hid h
  have HER := Lib.hid her
  clear h her
  cases is
  · go_enter Tryd.func30, Tryd.ntmps30
    go_wp2_with fail
    go_end0
    exact ⟨_, _, _, l, y, rfl, H.out, Off.refl _ _, Wrote.none_⟩
  by_cases hy : y = 0
  · subst hy
    go_enter Tryd.func30, Tryd.ntmps30
    go_wp2_with fail
    go_end0
    exact ⟨_, _, _, l, er, rfl, H.out.note er, Off.setCell (p := ⟨d, 1, none⟩) (Off.refl (fun k => k = d) w) (.inl rfl) _, fun hh => absurd rfl hh, fun _ => ⟨fun m hm => (by cases hm), fun e he => by cases he; exact ⟨rfl, HER.out⟩⟩⟩
  · have hyb : (y == 0) = false := by rw [beq_eq_false_iff_ne]; exact hy
    have HY := Lib.hid hy
    clear hy
    go_enter Tryd.func30, Tryd.ntmps30
    go_wp2_with fail
    go_end0
    exact ⟨_, _, _, l, y, rfl, H.out, Off.refl _ _, fun _ => rfl, fun hh => absurd hh HY.out⟩
set_option maxRecDepth 100000 in
set_option maxHeartbeats 2000000 in
theorem w_num (d : Nat) (va : Option Addr) (vn vc : Nat) (l : List UInt8) (y : Int) (z : Int) (hz : InR z) (w : World) (h : VSt d va vn vc l w y) (hl : y = 0 → l.length ≤ 100000000000000) :
    Calls Tryd.prog 31 #[.pointer (some ⟨d, 0, none⟩), .int .i64 z] w (VPost d l y (encN z) w) := by
  have hc0 := h.c0
  have hc1 := h.c1
  have hfr := h.free 0
  have H := Lib.hid h
  by_cases hy : y = 0
  · subst hy
    have hlen := h.own.len
    have hll := hl rfl
    have CP := Lib.hid (ref_put va vn vc l z w h.own.read (by omega) hz.1 hz.2)
    clear h hl hz hlen hll
    go_enter Tryd.func31, Tryd.ntmps31
    go_wp2_with fail
    refine CP.out.mono ?_
    rintro e w1 ⟨ua, un, uc, rfl, hown, hb⟩
    have H1 := Lib.hid (H.out.since hb)
    have HO := Lib.hid (hown.mono (B' := d + 1) H.out.lt)
    have HB := Lib.hid hb
    have f1 := H1.out.free 0
    have x1 := H1.out.c0
    clear hown hb hc0 hc1 hfr
    go_wp2_with fail
    go_end0
    exact ⟨_, _, _, l ++ putL z, 0, rfl, H1.out.put HO.out, Off.setCell (p := ⟨d, 0, none⟩) (Off.since (X := fun k => k = d) HB.out) (.inl rfl) _, fun hh => absurd rfl hh, fun _ => ⟨fun m hm => by cases hm; exact ⟨rfl, rfl⟩, fun e he => by cases he⟩⟩
  · have hyb : (y == 0) = false := by rw [beq_eq_false_iff_ne]; exact hy
    have HY := Lib.hid hy
    clear hy h hl
    go_enter Tryd.func31, Tryd.ntmps31
    go_wp2_with fail
    go_end0
    exact ⟨_, _, _, l, y, rfl, H.out, Off.refl _ _, fun _ => rfl, fun hh => absurd hh HY.out⟩
set_option maxRecDepth 100000 in
set_option maxHeartbeats 4000000 in
theorem w_list (d : Nat) (va : Option Addr) (vn vc : Nat) (l : List UInt8) (y : Int) (a : Option Addr) (n c : Nat) (Z : List Int) (most : Nat) (hmo : most ≤ 1000) (w : World) (h : VSt d va vn vc l w y) (hZ : NumsAt w a n Z) (hn : n ≤ 140737488355328) (hr : ∀ z ∈ Z, InR z) (hd : 0 < n → ∀ ad, a = some ad → ad.block ≠ d) (hl : y = 0 → l.length ≤ 90000000000000) :
    Calls Tryd.prog 32 #[.pointer (some ⟨d, 0, none⟩), .slice a n c, .int .i64 (most : Int)] w (VPost d l y (encNums most Z) w) := by
  have CB := Lib.hid (w_bad d va vn vc l y (decide (most < n)) 2 (by decide) w h)
  have HLN : RowKit.Hid (Z.length = n) := Lib.hid hZ.1
  have HRG := Lib.hid hr
  have HL := Lib.hid hl
  have HZ := Lib.hid hZ.2
  have HDD := Lib.hid hd
  have HN : RowKit.Hid (InR (n : Int)) := Lib.hid ⟨by omega, by omega⟩
  clear h hZ hr hl hd
  go_enter Tryd.func32, Tryd.ntmps32
  go_wp2_with fail
  refine CB.out.mono ?_
  rintro e w1 ⟨ua, un, uc, l1, y1, rfl, hv1, ho1, hw1⟩
  have HV1 := Lib.hid hv1
  have HO1 := Lib.hid ho1
  have HW1 := Lib.hid hw1
  clear CB hv1 ho1 hw1
  go_wp2_with fail
  refine (w_num d ua un uc l1 y1 (n : Int) HN.out w1 HV1.out (fun h0 => by have := HW1.out.len h0 (Upto.check _ _); have := HL.out (HW1.out.went h0).1; omega)).mono ?_
  rintro e w2 ⟨ub, um, ud, l2, y2, rfl, hv2, ho2, hw2⟩
  have HW2 : RowKit.Hid (Wrote (outCount n most) l y l2 y2) := Lib.hid ((HW1.out.and hw2).of (by unfold outCount encN; rw [chk_num]; congr 2; by_cases hh : most < n; rw [decide_eq_true hh, decide_eq_false (show ¬ n ≤ most by omega)]; rfl; rw [decide_eq_false hh, decide_eq_true (show n ≤ most by omega)]; rfl))
  have HO2 := Lib.hid (HO1.out.trans ho2)
  have HV2 := Lib.hid hv2
  clear hv2 ho2 hw2
  go_wp2_with fail
  go_loopw [6] (fun iv wr => ∃ (i : Nat) (ua : Option Addr) (un uc : Nat) (l3 : List UInt8) (y3 : Int), i ≤ n ∧ iv = .int .i64 (i : Int) ∧ wr.cell? ⟨d, 1, none⟩ = some (.int .i64 y3) ∧ RowKit.Hid (VSt d ua un uc l3 wr y3 ∧ Off (fun k => k = d) w wr ∧ Wrote (encAll encN (Z.take i)) l2 y2 l3 y3)) (fun iv _ => n - (intOf iv).toNat)
  case atStart => exact ⟨0, ub, um, ud, l2, y2, Nat.zero_le _, rfl, HV2.out.c1, Lib.hid ⟨HV2.out, HO2.out, Wrote.all0 Z⟩⟩
  case round =>
    obtain ⟨i, ua, un, uc, l3, y3, hi, rfl, hc1, HI⟩ := hrel
    have HFIN : RowKit.Hid (n ≤ i ∨ y3 ≠ 0 → Wrote (encNums most Z) l y l3 y3) := Lib.hid fun hn => by
      unfold encNums encList
      rw [HLN.out]
      exact HW2.out.and (HI.out.2.2.enough (by rw [HLN.out]; exact hn))
    by_cases hlt : i < n
    · by_cases hy : y3 = 0
      · subst hy
        obtain ⟨g, off, rfl, hg, hcell⟩ := HZ.out (by omega)
        have hil : i < Z.length := by rw [HLN.out]; exact hlt
        obtain ⟨z, hz⟩ : ∃ z, z = Z[i] := ⟨_, rfl⟩
        have hne := HDD.out (by omega) _ rfl
        have hcz : wr.cell? ⟨g, off + i, none⟩ = some (.int .i64 z) := (HI.out.2.1.cell (p := ⟨g, off + i, none⟩) hg hne).trans (by rw [hcell i hil, hz]; rfl)
        have HZI : RowKit.Hid (z = Z[i]) := Lib.hid hz
        have HIR : RowKit.Hid (InR z) := Lib.hid (by rw [hz]; exact HRG.out _ (List.getElem_mem hil))
        have HIL := Lib.hid hil
        have HLB : RowKit.Hid (l3.length ≤ 100000000000000) := Lib.hid (by
          obtain ⟨h2, m, hm, h3⟩ := HI.out.2.2.went rfl
          obtain ⟨h0, m0, hm0, h4⟩ := HW2.out.went h2
          have hu := (Upto.all (f := encN) (n := 10) (Z.take i) (fun z _ => Upto.num z)) m hm
          have hu0 := ((Upto.num (n : Int)).and (Upto.check (decide (n ≤ most)) 2)) m0 hm0
          have hnm : n ≤ most := Classical.byContradiction fun hh => by rw [outCount_no (by omega)] at hm0; cases hm0
          have := HL.out h0
          rw [h3, h4, List.length_append, List.length_append]
          rw [List.length_take] at hu
          have : min i Z.length ≤ 1000 := by omega
          omega)
        clear hz hcell
        go_wp2_with fail
        refine (w_num d ua un uc l3 0 z HIR.out wr HI.out.1 (fun _ => HLB.out)).mono ?_
        rintro e w5 ⟨ub5, um5, ud5, l5, y5, rfl, hv5, ho5, hw5⟩
        have HV5 := Lib.hid hv5
        have HO5 := Lib.hid (HI.out.2.1.trans ho5)
        have HW5 := Lib.hid (HI.out.2.2.more HIL.out (by rw [← HZI.out]; exact hw5))
        clear hv5 ho5 hw5
        go_wp2_with fail
        go_roundw
        case rel => exact ⟨i + 1, ub5, um5, ud5, l5, y5, by omega, by go_num, HV5.out.c1, Lib.hid ⟨HV5.out, HO5.out, HW5.out⟩⟩
        case measure => simp [intOf]; omega
      · have hyb : (y3 == 0) = false := by rw [beq_eq_false_iff_ne]; exact hy
        have HY := Lib.hid hy
        clear hy
        go_wp2_with fail
        go_end0
        exact ⟨_, _, _, l3, y3, rfl, HI.out.1, HI.out.2.1, HFIN.out (.inr HY.out)⟩
    · obtain rfl : i = n := by omega
      go_wp2_with fail
      go_end0
      exact ⟨_, _, _, l3, y3, rfl, HI.out.1, HI.out.2.1, HFIN.out (.inl (Nat.le_refl _))⟩
end Go.Proofs.YtfnkmigcklmghaaDoor

/- Layer 5: the document's reader (D): an end (mk_dc.py). -/
namespace Go.Proofs.YtfnkmigcklmghaaDoor
open Go.RowKit (wrap64 intOf Below)
set_option linter.unusedVariables false
set_option linter.unusedSimpArgs false
attribute [local go_sem ↓] Go.wp_at_zero Go.wp_at_succ

section
variable {w : World} {d : Nat} {a : Option Addr} {n c : Nat} {L : List UInt8} {T R E : Nat} {CR CE : Array Value} {u u' : World} {p p' : Nat} {y y' : Int}
/-- Numbers that a reader's call made, behind what turns other blocks. -/
theorem NumsO.across {X : Nat → Prop} {u u' : World} {B B' : Nat} {v : Value} {Z : List Int} (h : NumsO u (From B') v Z) (ho : Off X u u') (hB : B ≤ B') (hX : ∀ k, X k → k < B') : NumsO u' (From B) v Z :=
  h.holds (fun b hlt hs => ⟨ho.block b hlt (fun hk => by have := hX b hk; have : B' ≤ b := hs; omega), Nat.le_trans hB hs⟩)
end
theorem InR.one : InR 1 := ⟨by decide, by decide⟩
def EndOV (w : World) (S : Nat → Prop) (v : Value) (x : EndD) : Prop := ∃ k t A l va vn vc ma mn mc, v = .agg #[.int .i64 k, .int .i64 A, .int .i64 t, .int .i64 l, .slice va vn vc, .slice ma mn mc] ∧ EndO w S [.int .i64 k, .int .i64 A, .int .i64 t, .int .i64 l, .slice va vn vc, .slice ma mn mc] x
def kEnd (k : Int) (r : List UInt8) : PR EndD :=
  if k = 0 then (rdTarget r).bind fun p r' => .ok ⟨k, 0, p.1, 0, p.2, []⟩ r'
  else if k = 1 then (rdNum r).bind fun a r1 => (rdTarget r1).bind fun p r2 => (rdTarget r2).bind fun q r3 => .ok ⟨k, a, p.1, q.1, p.2, q.2⟩ r3
  else (rdNum r).bind fun a r1 => .ok ⟨k, a, 0, 0, [], []⟩ r1
theorem Ran.target {L : List UInt8} {p p1 p2 : Nat} {y y1 y2 : Int} {t : Int} {Z : List Int} (h1 : Ran rdNum L p y p1 y1 t) (h2 : Ran (rdNums 8) L p1 y1 p2 y2 Z) : Ran rdTarget L p y p2 y2 (t, Z) :=
  Ran.bind (f := rdNum) (g := fun t r => (rdNums 8 r).bind fun Z r' => .ok (t, Z) r') h1 (Ran.bind (f := rdNums 8) (g := fun Z r' => .ok (t, Z) r') h2 (Ran.pure _))
theorem Ran.end_ {L : List UInt8} {p p1 p2 : Nat} {y y1 y2 : Int} {k : Int} {x : EndD} (h1 : Ran (rdBelow 4) L p y p1 y1 k) (h2 : Ran (kEnd k) L p1 y1 p2 y2 x) : Ran rdEnd L p y p2 y2 x := Ran.bind (f := rdBelow 4) (g := kEnd) h1 h2
theorem Ran.end0 {L : List UInt8} {p p1 : Nat} {y y1 : Int} {t : Int} {Z : List Int} (h : Ran rdTarget L p y p1 y1 (t, Z)) : Ran (kEnd 0) L p y p1 y1 ⟨0, 0, t, 0, Z, []⟩ :=
  (Ran.bind (f := rdTarget) (g := fun p r' => PR.ok (EndD.mk 0 0 p.1 0 p.2 []) r') h (Ran.pure _)).of (fun l => by unfold kEnd; rw [if_pos rfl])
theorem Ran.end1 {L : List UInt8} {p p1 p2 p3 : Nat} {y y1 y2 y3 : Int} {A t l : Int} {Z Y : List Int} (h : Ran rdNum L p y p1 y1 A) (h1 : Ran rdTarget L p1 y1 p2 y2 (t, Z)) (h2 : Ran rdTarget L p2 y2 p3 y3 (l, Y)) : Ran (kEnd 1) L p y p3 y3 ⟨1, A, t, l, Z, Y⟩ :=
  (Ran.bind (f := rdNum) (g := fun a r1 => (rdTarget r1).bind fun p r2 => (rdTarget r2).bind fun q r3 => PR.ok (EndD.mk 1 a p.1 q.1 p.2 q.2) r3) h (Ran.bind (f := rdTarget) (g := fun p r2 => (rdTarget r2).bind fun q r3 => PR.ok (EndD.mk 1 A p.1 q.1 p.2 q.2) r3) h1 (Ran.bind (f := rdTarget) (g := fun q r3 => PR.ok (EndD.mk 1 A t q.1 Z q.2) r3) h2 (Ran.pure _)))).of (fun l => by unfold kEnd; rw [if_neg (by decide), if_pos rfl])
theorem Ran.end2 {L : List UInt8} {p p1 : Nat} {y y1 : Int} {k A : Int} (hk : k = 2 ∨ k = 3) (h : Ran rdNum L p y p1 y1 A) : Ran (kEnd k) L p y p1 y1 ⟨k, A, 0, 0, [], []⟩ :=
  (Ran.bind (f := rdNum) (g := fun a r1 => PR.ok (EndD.mk k a 0 0 [] []) r1) h (Ran.pure _)).of (fun l => by unfold kEnd; rw [if_neg (by omega), if_neg (by omega)])
end Go.Proofs.YtfnkmigcklmghaaDoor

/- Layer 5: the document's reader (D): a step (mk_dd.py). -/
namespace Go.Proofs.YtfnkmigcklmghaaDoor
open Go.RowKit (wrap64 intOf Below)
set_option linter.unusedVariables false
set_option linter.unusedSimpArgs false
attribute [local go_sem ↓] Go.wp_at_zero Go.wp_at_succ

theorem rdText_yes {L : List UInt8} {m k : Nat} (hg : Counts L 64 m k) (hm : m ≤ L.length - k) : rdText L = .ok (mk ((L.drop k).take m)) (L.drop (k + m)) := by
  unfold rdText
  rw [rdCount_yes hg]
  simp only [PR.bind]
  rw [if_pos (by rw [List.length_drop]; omega), List.drop_drop]
theorem rdText_no {L : List UInt8} {er : Int} (hf : NoText L 64 er) : rdText L = .no er := by
  unfold rdText
  rcases hf with hf | ⟨m, k, hg, hlt, rfl⟩
  · rw [rdCount_no hf]; rfl
  · rw [rdCount_yes hg]
    simp only [PR.bind]
    rw [if_neg (by rw [List.length_drop]; omega)]
def OpOV (w : World) (S : Nat → Prop) (v : Value) (x : OpD) : Prop := ∃ la ln lc, v = .agg #[.int .i64 x.K, .int .i64 x.A, .int .i64 x.B, .int .i64 x.C, .int .i64 x.N, .string x.S, .slice la ln lc, .bool x.T] ∧ OpO w S [.int .i64 x.K, .int .i64 x.A, .int .i64 x.B, .int .i64 x.C, .int .i64 x.N, .string x.S, .slice la ln lc, .bool x.T] x
/-- What is known of a step but for its list. -/
def OpR1 (x : OpD) : Prop := InR x.K ∧ InR x.A ∧ InR x.B ∧ InR x.C ∧ InR x.N ∧ x.S.size ≤ 140737488351232
section
variable {L : List UInt8} {p p1 p2 : Nat} {y y1 y2 : Int}
theorem Ran.fields0 (o : OpD) : Ran (rdFields o []) L p y p y o := Ran.pure o
theorem Ran.field {fs : List UInt8} {o x z : OpD} {j : Nat} (hj : j < fs.length) (h1 : Ran (rdFields o (fs.take j)) L p y p1 y1 x) (h2 : Ran (rdField x fs[j]) L p1 y1 p2 y2 z) : Ran (rdFields o (fs.take (j + 1))) L p y p2 y2 z :=
  (h1.bind (g := fun x r => rdField x fs[j] r) h2).of (fun l => by
    rw [List.take_succ_eq_append_getElem hj, rdFields_append]
    congr 1
    funext x r
    simp only [rdFields]
    cases rdField x fs[j] r <;> rfl)
theorem rdFields_stays {fs : List UInt8} {o : OpD} {j : Nat} {l : List UInt8} {e : Int} (h : rdFields o (fs.take j) l = .no e) : rdFields o fs l = .no e := by
  conv => lhs; rw [← List.take_append_drop j fs]
  rw [rdFields_append, h]
  rfl
theorem Ran.fieldsAll {fs : List UInt8} {o x : OpD} {j : Nat} (h : Ran (rdFields o (fs.take j)) L p y p1 y1 x) (hn : fs.length ≤ j ∨ y1 ≠ 0) : Ran (rdFields o fs) L p y p1 y1 x := by
  rcases hn with hn | hn
  · rwa [List.take_of_length_le hn] at h
  · exact ⟨h.1, fun hy => ⟨fun h0 => absurd h0 hn, fun _ => rdFields_stays ((h.2 hy).2 hn)⟩⟩
theorem Ran.op {k : Int} {x : OpD} (h1 : Ran (rdBelow 26) L p y p1 y1 k) (h2 : Ran (rdFields (opZero k) (fieldsL k)) L p1 y1 p2 y2 x) : Ran rdOp L p y p2 y2 x := Ran.bind (f := rdBelow 26) (g := fun k r => rdFields (opZero k) (fieldsL k) r) h1 h2
theorem Ran.fN {x : OpD} {m : Int} (h : Ran (rdNum) L p y p1 y1 m) : Ran (rdField x 78) L p y p1 y1 { x with N := m } :=
  (Ran.bind (f := rdNum) (g := fun m r => PR.ok { x with N := m } r) h (Ran.pure _)).of (fun l => by unfold rdField; simp)
theorem Ran.fA {x : OpD} {m : Int} (h : Ran (rdNum) L p y p1 y1 m) : Ran (rdField x 65) L p y p1 y1 { x with A := m } :=
  (Ran.bind (f := rdNum) (g := fun m r => PR.ok { x with A := m } r) h (Ran.pure _)).of (fun l => by unfold rdField; simp)
theorem Ran.fB {x : OpD} {m : Int} (h : Ran (rdNum) L p y p1 y1 m) : Ran (rdField x 66) L p y p1 y1 { x with B := m } :=
  (Ran.bind (f := rdNum) (g := fun m r => PR.ok { x with B := m } r) h (Ran.pure _)).of (fun l => by unfold rdField; simp)
theorem Ran.fC {x : OpD} {m : Int} (h : Ran (rdNum) L p y p1 y1 m) : Ran (rdField x 67) L p y p1 y1 { x with C := m } :=
  (Ran.bind (f := rdNum) (g := fun m r => PR.ok { x with C := m } r) h (Ran.pure _)).of (fun l => by unfold rdField; simp)
theorem Ran.fL {x : OpD} {Z : List Int} (h : Ran (rdNums 8) L p y p1 y1 Z) : Ran (rdField x 76) L p y p1 y1 { x with L := Z } :=
  (Ran.bind (f := rdNums 8) (g := fun Z r => PR.ok { x with L := Z } r) h (Ran.pure _)).of (fun l => by unfold rdField; simp)
theorem Ran.fS {x : OpD} {t : ByteArray} (h : Ran (rdText) L p y p1 y1 t) : Ran (rdField x 83) L p y p1 y1 { x with S := t } :=
  (Ran.bind (f := rdText) (g := fun t r => PR.ok { x with S := t } r) h (Ran.pure _)).of (fun l => by unfold rdField; simp)
theorem Ran.fK {x : OpD} {b : Bool} (h : Ran (rdTruth) L p y p1 y1 b) : Ran (rdField x 75) L p y p1 y1 { x with T := b } :=
  (Ran.bind (f := rdTruth) (g := fun b r => PR.ok { x with T := b } r) h (Ran.pure _)).of (fun l => by unfold rdField; simp)
theorem Ran.truth {k : Int} (h : Ran (rdBelow 2) L p y p1 y1 k) : Ran rdTruth L p y p1 y1 (k == 1) := Ran.bind (f := rdBelow 2) (g := fun n r => PR.ok (n == 1) r) h (Ran.pure _)
end
section
variable {w : World} {d : Nat} {a : Option Addr} {n c : Nat} {L : List UInt8} {T R E : Nat} {CR CE : Array Value} {u : World} {p : Nat} {y : Int}
end
end Go.Proofs.YtfnkmigcklmghaaDoor
