/- Layer 3, P3.1, P3.3, P3.4: wire.Take, walked, and what the statements WirePuts, WireTakes and WireCuts ask. -/
import Derived.Test.YtfnkmigcklmghaaDoorQWireRefT
import Derived.Deep.RegionHeld3
import Derived.Lib.AppendStr
namespace Go.Proofs.YtfnkmigcklmghaaDoor
open Go.RowKit (wrap64 intOf Below)
set_option linter.unusedVariables false

def TakePost (m : Int) (R : List UInt8) (w : World) (e : Ending) (w' : World) : Prop :=
  ∃ va vn vc, e = .returned (.tuple #[.int .i64 m, .slice va vn vc, .int .i64 0]) ∧ OwnsB w' w.heap.size 5 (.slice va vn vc) R ∧ Below w.heap.size w w'

theorem slice_from (a : Option Addr) (n c k : Nat) (hk : k ≤ n) (u : World) : (Instr.slice 30 (.slice a n c) (some (.int .i64 (k : Int))) none none).run Tryd.prog u = .ok (.slice (fromA a c k) (n - k) (c - k)) u :=
  run_from Tryd.underlying30 size_u8 a n c k hk u
theorem slice_to (a : Option Addr) (n c k : Nat) (hk : k ≤ c) (u : World) : (Instr.slice 30 (.slice a n c) none (some (.int .i64 (k : Int))) none).run Tryd.prog u = .ok (.slice a k c) u :=
  run_to Tryd.underlying30 size_u8 a n c k hk u
theorem text_of {w : World} {a : Option Addr} {n c : Nat} {L : List UInt8} (h : BytesAt w a n c L) : (convert 30 9 (.slice a n c)).run Tryd.prog w = .ok (.string (mk L)) w :=
  run_text h 30 9 5 Tryd.underlying30 Tryd.underlying5 Tryd.underlying9

theorem take_yes (a : Option Addr) (n c : Nat) (L : List UInt8) (w : World) (hat : BytesAt w a n c L) (hn : n ≤ 140737488355328) (m : Int) (k : Nat) (hg : Gives L m k) :
    Calls Tryd.prog 157 #[.slice a n c] w (TakePost m (L.drop k) w) := by
  have hk : k ≤ n := by have := hg.put.2.2.1; rw [hat.1] at this; exact this
  have hsl := slice_from a n c k hk
  have HA := Lib.hid hat
  have HD := Lib.hid (hat.drop k hk)
  have HG := Lib.hid hg
  clear hat hg
  go_enter Tryd.func157, Tryd.ntmps157
  go_wp2_with (first | (go_at_call 160; (with_reducible refine (first_yes a n c L _ HA.out hn m k HG.out).mono ?_); rintro e w1 ⟨rfl, rfl⟩) | (go_at_call 151; (with_reducible refine (apart_none _ _ _ (L.drop k) _ HD.out (by omega)).mono ?_); rintro e w2 ⟨va, vn, vc, rfl, hown, hb⟩; have HO := Lib.hid hown; have HB := Lib.hid hb; clear hown hb))
  go_ret3
  exact ⟨va, vn, vc, rfl, HO.out, HB.out⟩
theorem take_no (a : Option Addr) (n c : Nat) (L : List UInt8) (w : World) (hat : BytesAt w a n c L) (hn : n ≤ 140737488355328) (er : Int) (hg : Fails L er) :
    Calls Tryd.prog 157 #[.slice a n c] w fun e w' => e = .returned (.tuple #[.int .i64 0, .slice none 0 0, .int .i64 er]) ∧ w = w' := by
  have HA := Lib.hid hat
  have HG := Lib.hid hg
  have hr := hg.2
  clear hat hg
  rcases hr with rfl | rfl
  all_goals
    go_enter Tryd.func157, Tryd.ntmps157
    go_wp2_with (go_at_call 160; (with_reducible refine (first_no a n c L _ HA.out hn _ HG.out).mono ?_); rintro e w1 ⟨rfl, rfl⟩)
    go_ret3
    exact ⟨rfl, rfl⟩

theorem put64 : putL 64 = [128, 1] := by decide +kernel
theorem gives64 : Gives [128, 1] 64 2 := by
  have := gives_put (n := 64) (by decide) (by decide) []
  rw [List.append_nil, put64] at this
  exact this
theorem text64 {w : World} {B : Nat} {a : Option Addr} {n c : Nat} (h : OwnsB w B 5 (.slice a n c) [128, 1]) : (convert 30 9 (.slice a n c)).run Tryd.prog w = .ok (.string ⟨#[128, 1]⟩) w := text_of h.read
theorem put_64 (w : World) : Calls Tryd.prog 148 #[.slice none 0 0, .int .i64 64] w (BytesPost w.heap.size [128, 1] w) := by
  have := put_any none 0 0 [] 64 w (BytesAt.nil w) (by decide) (by decide) (by decide)
  rw [List.nil_append, put64] at this
  exact this
theorem OwnsB.len {w : World} {B : Nat} {e : TypeId} {a : Option Addr} {n c : Nat} {l : List UInt8} (h : OwnsB w B e (.slice a n c) l) : l.length = n := h.read.1

end Go.Proofs.YtfnkmigcklmghaaDoor

/- Layer 3, P3.1, P3.3: what the statement WirePuts asks, walked. -/
namespace Go.Proofs.YtfnkmigcklmghaaDoor
open Go.RowKit (wrap64 intOf Below)
set_option linter.unusedVariables false

theorem keepB {w u w' : World} (h1 : Below w.heap.size w u) (h2 : Below u.heap.size u w') : Below w.heap.size w w' := h1.trans (h2.mono h1.size)
theorem BytesAt.since {w w' : World} {a : Option Addr} {n c : Nat} {L : List UInt8} (h : BytesAt w a n c L) (hb : Below w.heap.size w w') : BytesAt w' a n c L := h.below hb (Nat.le_refl _)

end Go.Proofs.YtfnkmigcklmghaaDoor

/- Layer 3, P3.2: how many there are (wire.count and the document's Count), and texts as bytes (PutText, TakeText, and the document's), walked. -/
namespace Go.Proofs.YtfnkmigcklmghaaDoor
open Go.RowKit (wrap64 intOf Below)
set_option linter.unusedVariables false

/-- 'append(b, s...)' of a text: b the call's own. -/
theorem wpList_append_text {P : Program} (w : World) {ops : Array Oper} {rest : List Oper} {o : Oper} {a : Act} {Q : Exit → Act → World → Prop} (hgd : o.guard = none) (sl x : Operand) (t u : TypeId)
    (ho : o.op = .call { callee := .builtin .append, args := #[sl, x], argTypes := #[t, u] }) (e : TypeId) (ht : P.underlying t = some (.slice e)) (hu : P.underlying u = some .string)
    (hinfo : (P.info? e).map (fun i => (i.zero, i.size, i.bytes)) = some (some (.int .u8 0), 1, 1))
    (B : Nat) (v : Value) (l : List UInt8) (hs : a.eval sl = v) (hown : OwnsB w B e v l) (hB : B ≤ w.heap.size) (s : ByteArray) (hx : a.eval x = .string s)
    (hlen : l.length + s.size ≤ 140737488355328)
    (h : ∀ va vn vc w', OwnsB w' B e (.slice va vn vc) (l ++ s.data.toList) → Below B w w' → wpList P ops Q rest (a.put o.dst (.slice va vn vc)) w') : wpList P ops Q (o :: rest) a w := by
  obtain ⟨i0, hi, hz0, hz1, hz2⟩ := info_parts hinfo
  refine Lib.wpList_append_own_string w hgd sl x t u ho B e i0 ht hu hi hz0 hz1 hz2 v l.length (l.map byteV) hs hown s hx (by unfold maxLen; omega) hlen hB ?_
  intro v' w' hown' hgrow _
  have hown2 : OwnsB w' B e v' (l ++ s.data.toList) := by
    show w'.ownsRow B e 1 v' (l ++ s.data.toList).length ((l ++ s.data.toList).map byteV)
    rw [List.map_append, List.length_append, list_len]
    exact hown'
  obtain ⟨va, vn, vc, rfl, _⟩ := hown2.at
  exact h va vn vc w' hown2 (Below.grown (Below.refl B w) hgrow hB (fun k hk => (hown.lt k hk).1))

/-- A text as bytes. -/
def putT (s : ByteArray) : List UInt8 := putL (s.size : Int) ++ s.data.toList
theorem putT_len (s : ByteArray) : (putT s).length ≤ 10 + s.size := by
  unfold putT; rw [List.length_append, list_len]; have := putL_len (s.size : Int); omega

theorem put_text (a : Option Addr) (n c : Nat) (L : List UInt8) (s : ByteArray) (w : World) (hat : BytesAt w a n c L) (hn : n + (10 + s.size) ≤ 140737488355328) :
    Calls Tryd.prog 149 #[.slice a n c, .string s] w (BytesPost w.heap.size (L ++ putT s) w) := by
  have C1 : ∀ w, BytesAt w a n c L → Calls Tryd.prog 151 #[.slice a n c, .int .i64 (10 + (s.size : Int))] w (BytesPost w.heap.size L w) := fun w h => apart_any a n c L (10 + s.size) w h hn
  have C1 := Lib.hid C1
  have HA := Lib.hid hat
  have hl := hat.1
  have HL : RowKit.Hid (L.length + 10 ≤ 140737488355328) := Lib.hid (by rw [hl]; omega)
  have HL2 : RowKit.Hid ((L ++ putL (s.size : Int)).length + s.size ≤ 140737488355328) := Lib.hid (by rw [List.length_append, hl]; have := putL_len (s.size : Int); omega)
  clear hat hl
  go_enter Tryd.func149, Tryd.ntmps149
  go_wp2_with fail
  refine (C1.out _ HA.out).mono ?_
  rintro e w1 ⟨va, vn, vc, rfl, hown1, hb1⟩
  have HB1 := Lib.hid hb1
  have HO1 := Lib.hid hown1
  clear hb1 hown1
  go_wp2_with fail
  refine (grown_any w.heap.size _ L (s.size : Int) _ HO1.out HB1.out.size HL.out (by omega) (by omega)).mono ?_
  rintro e w2 ⟨va2, vn2, vc2, rfl, hown2, hb2⟩
  have HB2 := Lib.hid (HB1.out.trans hb2)
  have HO2 := Lib.hid hown2
  clear hb2 hown2
  go_wp2_with (at_builtin; refine wpList_append_text _ rfl _ _ 30 9 rfl 5 Tryd.underlying30 Tryd.underlying9 info_u8 w.heap.size _ _ rfl HO2.out HB2.out.size s rfl HL2.out ?_; intro va3 vn3 vc3 w3 hown3 hb3)
  rw [List.append_assoc] at hown3
  go_ret
  exact ⟨va3, vn3, vc3, rfl, hown3, HB2.out.trans hb3⟩

theorem ref_put_text (a : Option Addr) (n c : Nat) (L : List UInt8) (s : ByteArray) (w : World) (hat : BytesAt w a n c L) (hn : n + (10 + s.size) ≤ 140737488355328) :
    Calls Tryd.prog 91 #[.slice a n c, .string s] w (BytesPost w.heap.size (L ++ putT s) w) := by
  have HA := Lib.hid hat
  have hl := hat.1
  have HL2 : RowKit.Hid ((L ++ putL (s.size : Int)).length + s.size ≤ 140737488355328) := Lib.hid (by rw [List.length_append, hl]; have := putL_len (s.size : Int); omega)
  clear hat hl
  go_enter Tryd.func91, Tryd.ntmps91
  go_wp2_with fail
  refine (ref_put _ _ _ L (s.size : Int) _ HA.out (by omega) (by omega) (by omega)).mono ?_
  rintro e w2 ⟨va2, vn2, vc2, rfl, hown2, hb2⟩
  have HB2 := Lib.hid hb2
  have HO2 := Lib.hid hown2
  clear hb2 hown2
  go_wp2_with (at_builtin; refine wpList_append_text _ rfl _ _ 30 9 rfl 5 Tryd.underlying30 Tryd.underlying9 info_u8 w.heap.size _ _ rfl HO2.out HB2.out.size s rfl HL2.out ?_; intro va3 vn3 vc3 w3 hown3 hb3)
  rw [List.append_assoc] at hown3
  go_ret
  exact ⟨va3, vn3, vc3, rfl, hown3, HB2.out.trans hb3⟩

/-- The bytes begin with m, in k bytes, and that is at most most. -/
def Counts (L : List UInt8) (most : Int) (m k : Nat) : Prop := Gives L (m : Int) k ∧ (m : Int) ≤ most
/-- They don't, for the reason er. -/
def NoCount (L : List UInt8) (most : Int) (er : Int) : Prop := Fails L er ∨ ∃ m k, Gives L m k ∧ ((m < 0 ∧ er = 4) ∨ (0 ≤ m ∧ most < m ∧ er = 2))
theorem counts_or (L : List UInt8) (most : Int) : (∃ m k, Counts L most m k) ∨ ∃ er, NoCount L most er := by
  rcases gives_or_fails L with ⟨m, k, h⟩ | ⟨er, h⟩
  · by_cases h0 : m < 0
    · exact Or.inr ⟨4, Or.inr ⟨m, k, h, Or.inl ⟨h0, rfl⟩⟩⟩
    · by_cases h1 : most < m
      · exact Or.inr ⟨2, Or.inr ⟨m, k, h, Or.inr ⟨by omega, h1, rfl⟩⟩⟩
      · obtain ⟨M, rfl⟩ := Int.eq_ofNat_of_zero_le (show 0 ≤ m by omega)
        exact Or.inl ⟨M, k, h, by omega⟩
  · exact Or.inr ⟨er, Or.inl h⟩
theorem NoCount.err {L : List UInt8} {most er : Int} (h : NoCount L most er) : er = 2 ∨ er = 3 ∨ er = 4 := by
  rcases h with h | ⟨m, k, _, ⟨_, h⟩ | ⟨_, _, h⟩⟩
  · exact Or.inr h.2
  · exact Or.inr (Or.inr h)
  · exact Or.inl h
theorem Counts.in {L : List UInt8} {most : Int} {m k : Nat} (h : Counts L most m k) : 1 ≤ k ∧ k ≤ L.length ∧ m ≤ 9223372036854775807 := by
  have := h.1.put
  omega

theorem count_yes (a : Option Addr) (n c : Nat) (L : List UInt8) (most : Int) (w : World) (hat : BytesAt w a n c L) (hn : n ≤ 140737488355328) (m k : Nat) (hg : Counts L most m k) :
    Calls Tryd.prog 161 #[.slice a n c, .int .i64 most] w fun e w' => e = .returned (.tuple #[.int .i64 (m : Int), .int .i64 (k : Int), .int .i64 0]) ∧ w = w' := by
  have C1 := Lib.hid (first_yes a n c L w hat hn m k hg.1)
  have hm := hg.2
  have hd : decide (most < (m : Int)) = false := by rw [decide_eq_false_iff_not]; omega
  clear hat hg
  go_enter Tryd.func161, Tryd.ntmps161
  go_wp2_with fail
  refine C1.out.mono ?_
  rintro e w1 ⟨rfl, rfl⟩
  go_wp2_with fail
  go_ret3
  exact ⟨rfl, rfl⟩
def SomeNo (er : Int) (w : World) (e : Ending) (w' : World) : Prop := ∃ x y : Int, e = .returned (.tuple #[.int .i64 x, .int .i64 y, .int .i64 er]) ∧ w = w'
theorem count_no (a : Option Addr) (n c : Nat) (L : List UInt8) (most : Int) (w : World) (hat : BytesAt w a n c L) (hn : n ≤ 140737488355328) (er : Int) (hg : NoCount L most er) :
    Calls Tryd.prog 161 #[.slice a n c, .int .i64 most] w (SomeNo er w) := by
  rcases hg with hf | ⟨m, k, hg, hor⟩
  · have C1 := Lib.hid (first_no a n c L w hat hn er hf)
    have hr := hf.2
    clear hat hf
    rcases hr with rfl | rfl
    all_goals
      go_enter Tryd.func161, Tryd.ntmps161
      go_wp2_with fail
      refine C1.out.mono ?_
      rintro e w1 ⟨rfl, rfl⟩
      go_wp2_with fail
      go_ret3
      exact ⟨_, _, rfl, rfl⟩
  · have C1 := Lib.hid (first_yes a n c L w hat hn m k hg)
    clear hat hg
    rcases hor with ⟨h1, rfl⟩ | ⟨h1, h2, rfl⟩
    all_goals
      go_enter Tryd.func161, Tryd.ntmps161
      go_wp2_with fail
      refine C1.out.mono ?_
      rintro e w1 ⟨rfl, rfl⟩
      go_wp2_with fail
      go_ret3
      exact ⟨_, _, rfl, rfl⟩
def TextPost (S R : List UInt8) (w : World) (e : Ending) (w' : World) : Prop :=
  ∃ va vn vc, e = .returned (.tuple #[.string (mk S), .slice va vn vc, .int .i64 0]) ∧ OwnsB w' w.heap.size 5 (.slice va vn vc) R ∧ Below w.heap.size w w'

theorem take_text_yes (a : Option Addr) (n c : Nat) (L : List UInt8) (most : Int) (w : World) (hat : BytesAt w a n c L) (hn : n ≤ 140737488355328) (m k : Nat) (hg : Counts L most m k) (hm : m ≤ n - k) :
    Calls Tryd.prog 159 #[.slice a n c, .int .i64 most] w (TextPost ((L.drop k).take m) ((L.drop k).drop m) w) := by
  have hk : k ≤ n := by have := hg.in.2.1; rw [hat.1] at this; exact this
  have C1 := Lib.hid (count_yes a n c L most w hat hn m k hg)
  obtain ⟨a', ha'⟩ : ∃ a', fromA a c k = a' := ⟨_, rfl⟩
  obtain ⟨n', hn'⟩ : ∃ n', n - k = n' := ⟨_, rfl⟩
  obtain ⟨c', hc'⟩ : ∃ c', c - k = c' := ⟨_, rfl⟩
  have hs1 := slice_from a n c k hk
  have hA' := hat.drop k hk
  rw [ha', hn', hc'] at hs1 hA'
  rw [hn'] at hm
  have hn2 : n' ≤ 140737488355328 := by omega
  have hs2 := slice_to a' n' c' m (by have := hA'.2.1; omega)
  have hs3 := slice_from a' n' c' m hm
  have ht : ∀ u, Below w.heap.size w u → (convert 30 9 (.slice a' m c')).run Tryd.prog u = .ok (.string (mk ((L.drop k).take m))) u := fun u hu => text_of ((hA'.since hu).take m hm)
  have C2 := Lib.hid fun u (hu : Below w.heap.size w u) => apart_none _ _ _ _ u ((hA'.since hu).drop m hm) (by omega)
  have hd : decide (n' < m) = false := by rw [decide_eq_false_iff_not]; omega
  clear hat hg hA' ha' hn' hc'
  go_enter Tryd.func159, Tryd.ntmps159
  go_wp2_with fail
  refine C1.out.mono ?_
  rintro e w1 ⟨rfl, rfl⟩
  go_wp2_with fail
  go_region_held3 (fun u => Below w.heap.size w u) (first | exact (Below.refl _ _).drew | exact keepB (by assumption) (by assumption)) (first | (go_at_call 151; (with_reducible refine (C2.out _ (by assumption)).mono ?_); rintro e w3 ⟨va3, vn3, vc3, rfl, hown3, hb3⟩))
  all_goals go_wp2
  all_goals go_ret3
  all_goals exact ⟨va3, vn3, vc3, rfl, hown3, (Below.refl w.heap.size w).drew.trans hb3⟩

/-- Why a text is not taken. -/
def NoText (L : List UInt8) (most : Int) (er : Int) : Prop := NoCount L most er ∨ ∃ m k, Counts L most m k ∧ L.length - k < m ∧ er = 3
theorem text_or (L : List UInt8) (most : Int) : (∃ m k, Counts L most m k ∧ m ≤ L.length - k) ∨ ∃ er, NoText L most er := by
  rcases counts_or L most with ⟨m, k, h⟩ | ⟨er, h⟩
  · by_cases hm : m ≤ L.length - k
    · exact Or.inl ⟨m, k, h, hm⟩
    · exact Or.inr ⟨3, Or.inr ⟨m, k, h, by omega, rfl⟩⟩
  · exact Or.inr ⟨er, Or.inl h⟩
theorem NoText.err {L : List UInt8} {most er : Int} (h : NoText L most er) : er = 2 ∨ er = 3 ∨ er = 4 := by
  rcases h with h | ⟨m, k, _, _, h⟩
  · exact h.err
  · exact Or.inr (Or.inl h)

theorem take_text_no (a : Option Addr) (n c : Nat) (L : List UInt8) (most : Int) (w : World) (hat : BytesAt w a n c L) (hn : n ≤ 140737488355328) (er : Int) (hg : NoText L most er) :
    Calls Tryd.prog 159 #[.slice a n c, .int .i64 most] w fun e w' => e = .returned (.tuple #[.string ⟨#[]⟩, .slice none 0 0, .int .i64 er]) ∧ w = w' := by
  rcases hg with hf | ⟨m, k, hg, hm, rfl⟩
  · have C1 := Lib.hid (count_no a n c L most w hat hn er hf)
    have hr := hf.err
    clear hat hf
    rcases hr with rfl | rfl | rfl
    all_goals
      go_enter Tryd.func159, Tryd.ntmps159
      go_wp2_with fail
      refine C1.out.mono ?_
      rintro e w1 ⟨x, y, rfl, rfl⟩
      go_wp2_with fail
      go_ret3
      exact ⟨rfl, rfl⟩
  · have hk : k ≤ n := by have := hg.in.2.1; rw [hat.1] at this; exact this
    have C1 := Lib.hid (count_yes a n c L most w hat hn m k hg)
    obtain ⟨a', ha'⟩ : ∃ a', fromA a c k = a' := ⟨_, rfl⟩
    obtain ⟨n', hn'⟩ : ∃ n', n - k = n' := ⟨_, rfl⟩
    obtain ⟨c', hc'⟩ : ∃ c', c - k = c' := ⟨_, rfl⟩
    have hs1 := slice_from a n c k hk
    rw [ha', hn', hc'] at hs1
    rw [hat.1, hn'] at hm
    have hd : decide (n' < m) = true := by rw [decide_eq_true_iff]; omega
    clear hat hg ha' hn' hc'
    go_enter Tryd.func159, Tryd.ntmps159
    go_wp2_with fail
    refine C1.out.mono ?_
    rintro e w1 ⟨rfl, rfl⟩
    go_wp2_with fail
    go_ret3
    exact ⟨rfl, rfl⟩

theorem slice_part (a : Option Addr) (n c k m : Nat) (h : k + m ≤ c) (u : World) : (Instr.slice 30 (.slice a n c) (some (.int .i64 (k : Int))) (some (.int .i64 ((k : Int) + (m : Int)))) none).run Tryd.prog u = .ok (.slice (fromA a c k) m (c - k)) u := by
  have := run_part Tryd.underlying30 size_u8 a n c k (k + m) (by omega) h u
  rw [Nat.add_sub_cancel_left] at this
  exact this
end Go.Proofs.YtfnkmigcklmghaaDoor
