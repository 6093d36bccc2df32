/- Layer 3, P3.1, P3.3, P3.4: wire.Take, walked, and what the statements WirePuts, WireTakes and WireCuts ask. -/
import Derived.Test.YtnapechlgjcpbaaDoorQWireRefT
import Derived.Deep.RegionHeld3
import Derived.Lib.AppendStr
namespace Go.Proofs.YtnapechlgjcpbaaDoor
open Go.RowKit (wrap64 intOf Below)
set_option linter.unusedVariables false

def TakePost (m : Int) (R : List UInt8) (w : World) (e : Ending) (w' : World) : Prop :=
  ∃ va vn vc, e = .returned (.tuple #[.int .i64 m, .slice va vn vc, .int .i64 0]) ∧ OwnsB w' w.heap.size 5 (.slice va vn vc) R ∧ Below w.heap.size w w'

theorem slice_from (a : Option Addr) (n c k : Nat) (hk : k ≤ n) (u : World) : (Instr.slice 53 (.slice a n c) (some (.int .i64 (k : Int))) none none).run Tryd.prog u = .ok (.slice (fromA a c k) (n - k) (c - k)) u :=
  run_from Tryd.underlying53 size_u8 a n c k hk u
theorem slice_to (a : Option Addr) (n c k : Nat) (hk : k ≤ c) (u : World) : (Instr.slice 53 (.slice a n c) none (some (.int .i64 (k : Int))) none).run Tryd.prog u = .ok (.slice a k c) u :=
  run_to Tryd.underlying53 size_u8 a n c k hk u
theorem text_of {w : World} {a : Option Addr} {n c : Nat} {L : List UInt8} (h : BytesAt w a n c L) : (convert 53 9 (.slice a n c)).run Tryd.prog w = .ok (.string (mk L)) w :=
  run_text h 53 9 5 Tryd.underlying53 Tryd.underlying5 Tryd.underlying9

theorem put64 : putL 64 = [128, 1] := by decide +kernel
theorem gives64 : Gives [128, 1] 64 2 := by
  have := gives_put (n := 64) (by decide) (by decide) []
  rw [List.append_nil, put64] at this
  exact this
theorem text64 {w : World} {B : Nat} {a : Option Addr} {n c : Nat} (h : OwnsB w B 5 (.slice a n c) [128, 1]) : (convert 53 9 (.slice a n c)).run Tryd.prog w = .ok (.string ⟨#[128, 1]⟩) w := text_of h.read
theorem OwnsB.len {w : World} {B : Nat} {e : TypeId} {a : Option Addr} {n c : Nat} {l : List UInt8} (h : OwnsB w B e (.slice a n c) l) : l.length = n := h.read.1

end Go.Proofs.YtnapechlgjcpbaaDoor

/- Layer 3, P3.1, P3.3: what the statement WirePuts asks, walked. -/
namespace Go.Proofs.YtnapechlgjcpbaaDoor
open Go.RowKit (wrap64 intOf Below)
set_option linter.unusedVariables false

theorem keepB {w u w' : World} (h1 : Below w.heap.size w u) (h2 : Below u.heap.size u w') : Below w.heap.size w w' := h1.trans (h2.mono h1.size)
theorem BytesAt.since {w w' : World} {a : Option Addr} {n c : Nat} {L : List UInt8} (h : BytesAt w a n c L) (hb : Below w.heap.size w w') : BytesAt w' a n c L := h.below hb (Nat.le_refl _)

end Go.Proofs.YtnapechlgjcpbaaDoor

/- Layer 3, P3.2: how many there are (wire.count and the document's Count), and texts as bytes (PutText, TakeText, and the document's), walked. -/
namespace Go.Proofs.YtnapechlgjcpbaaDoor
open Go.RowKit (wrap64 intOf Below)
set_option linter.unusedVariables false

/-- 'append(b, s...)' of a text: b the call's own. -/
theorem wpList_append_text {P : Program} (w : World) {ops : Array Oper} {rest : List Oper} {o : Oper} {a : Act} {Q : Exit → Act → World → Prop} (hgd : o.guard = none) (sl x : Operand) (t u : TypeId)
    (ho : o.op = .call { callee := .builtin .append, args := #[sl, x], argTypes := #[t, u] }) (e : TypeId) (ht : P.underlying t = some (.slice e)) (hu : P.underlying u = some .string)
    (hinfo : (P.info? e).map (fun i => (i.zero, i.size, i.bytes)) = some (some (.int .u8 0), 1, 1))
    (B : Nat) (v : Value) (l : List UInt8) (hs : a.eval sl = v) (hown : OwnsB w B e v l) (hB : B ≤ w.heap.size) (s : ByteArray) (hx : a.eval x = .string s)
    (hlen : l.length + s.size ≤ 140737488355328)
    (h : ∀ va vn vc w', OwnsB w' B e (.slice va vn vc) (l ++ s.data.toList) → Below B w w' → wpList P ops Q rest (a.put o.dst (.slice va vn vc)) w') : wpList P ops Q (o :: rest) a w := by
  obtain ⟨i0, hi, hz0, hz1, hz2⟩ := info_parts hinfo
  refine Lib.wpList_append_own_string w hgd sl x t u ho B e i0 ht hu hi hz0 hz1 hz2 v l.length (l.map byteV) hs hown s hx (by unfold maxLen; omega) hlen hB ?_
  intro v' w' hown' hgrow _
  have hown2 : OwnsB w' B e v' (l ++ s.data.toList) := by
    show w'.ownsRow B e 1 v' (l ++ s.data.toList).length ((l ++ s.data.toList).map byteV)
    rw [List.map_append, List.length_append, list_len]
    exact hown'
  obtain ⟨va, vn, vc, rfl, _⟩ := hown2.at
  exact h va vn vc w' hown2 (Below.grown (Below.refl B w) hgrow hB (fun k hk => (hown.lt k hk).1))

/-- A text as bytes. -/
def putT (s : ByteArray) : List UInt8 := putL (s.size : Int) ++ s.data.toList
theorem putT_len (s : ByteArray) : (putT s).length ≤ 10 + s.size := by
  unfold putT; rw [List.length_append, list_len]; have := putL_len (s.size : Int); omega

theorem ref_put_text (a : Option Addr) (n c : Nat) (L : List UInt8) (s : ByteArray) (w : World) (hat : BytesAt w a n c L) (hn : n + (10 + s.size) ≤ 140737488355328) :
    Calls Tryd.prog 74 #[.slice a n c, .string s] w (BytesPost w.heap.size (L ++ putT s) w) := by
  have HA := Lib.hid hat
  have hl := hat.1
  have HL2 : RowKit.Hid ((L ++ putL (s.size : Int)).length + s.size ≤ 140737488355328) := Lib.hid (by rw [List.length_append, hl]; have := putL_len (s.size : Int); omega)
  clear hat hl
  go_enter Tryd.func74, Tryd.ntmps74
  go_wp2_with fail
  refine (ref_put _ _ _ L (s.size : Int) _ HA.out (by omega) (by omega) (by omega)).mono ?_
  rintro e w2 ⟨va2, vn2, vc2, rfl, hown2, hb2⟩
  have HB2 := Lib.hid hb2
  have HO2 := Lib.hid hown2
  clear hb2 hown2
  go_wp2_with (at_builtin; refine wpList_append_text _ rfl _ _ 53 9 rfl 5 Tryd.underlying53 Tryd.underlying9 info_u8 w.heap.size _ _ rfl HO2.out HB2.out.size s rfl HL2.out ?_; intro va3 vn3 vc3 w3 hown3 hb3)
  rw [List.append_assoc] at hown3
  go_ret
  exact ⟨va3, vn3, vc3, rfl, hown3, HB2.out.trans hb3⟩

/-- The bytes begin with m, in k bytes, and that is at most most. -/
def Counts (L : List UInt8) (most : Int) (m k : Nat) : Prop := Gives L (m : Int) k ∧ (m : Int) ≤ most
/-- They don't, for the reason er. -/
def NoCount (L : List UInt8) (most : Int) (er : Int) : Prop := Fails L er ∨ ∃ m k, Gives L m k ∧ ((m < 0 ∧ er = 4) ∨ (0 ≤ m ∧ most < m ∧ er = 2))
theorem counts_or (L : List UInt8) (most : Int) : (∃ m k, Counts L most m k) ∨ ∃ er, NoCount L most er := by
  rcases gives_or_fails L with ⟨m, k, h⟩ | ⟨er, h⟩
  · by_cases h0 : m < 0
    · exact Or.inr ⟨4, Or.inr ⟨m, k, h, Or.inl ⟨h0, rfl⟩⟩⟩
    · by_cases h1 : most < m
      · exact Or.inr ⟨2, Or.inr ⟨m, k, h, Or.inr ⟨by omega, h1, rfl⟩⟩⟩
      · obtain ⟨M, rfl⟩ := Int.eq_ofNat_of_zero_le (show 0 ≤ m by omega)
        exact Or.inl ⟨M, k, h, by omega⟩
  · exact Or.inr ⟨er, Or.inl h⟩
theorem NoCount.err {L : List UInt8} {most er : Int} (h : NoCount L most er) : er = 2 ∨ er = 3 ∨ er = 4 := by
  rcases h with h | ⟨m, k, _, ⟨_, h⟩ | ⟨_, _, h⟩⟩
  · exact Or.inr h.2
  · exact Or.inr (Or.inr h)
  · exact Or.inl h
theorem Counts.in {L : List UInt8} {most : Int} {m k : Nat} (h : Counts L most m k) : 1 ≤ k ∧ k ≤ L.length ∧ m ≤ 9223372036854775807 := by
  have := h.1.put
  omega

def SomeNo (er : Int) (w : World) (e : Ending) (w' : World) : Prop := ∃ x y : Int, e = .returned (.tuple #[.int .i64 x, .int .i64 y, .int .i64 er]) ∧ w = w'
def TextPost (S R : List UInt8) (w : World) (e : Ending) (w' : World) : Prop :=
  ∃ va vn vc, e = .returned (.tuple #[.string (mk S), .slice va vn vc, .int .i64 0]) ∧ OwnsB w' w.heap.size 5 (.slice va vn vc) R ∧ Below w.heap.size w w'

/-- Why a text is not taken. -/
def NoText (L : List UInt8) (most : Int) (er : Int) : Prop := NoCount L most er ∨ ∃ m k, Counts L most m k ∧ L.length - k < m ∧ er = 3
theorem text_or (L : List UInt8) (most : Int) : (∃ m k, Counts L most m k ∧ m ≤ L.length - k) ∨ ∃ er, NoText L most er := by
  rcases counts_or L most with ⟨m, k, h⟩ | ⟨er, h⟩
  · by_cases hm : m ≤ L.length - k
    · exact Or.inl ⟨m, k, h, hm⟩
    · exact Or.inr ⟨3, Or.inr ⟨m, k, h, by omega, rfl⟩⟩
  · exact Or.inr ⟨er, Or.inl h⟩
theorem NoText.err {L : List UInt8} {most er : Int} (h : NoText L most er) : er = 2 ∨ er = 3 ∨ er = 4 := by
  rcases h with h | ⟨m, k, _, _, h⟩
  · exact h.err
  · exact Or.inr (Or.inl h)

theorem slice_part (a : Option Addr) (n c k m : Nat) (h : k + m ≤ c) (u : World) : (Instr.slice 53 (.slice a n c) (some (.int .i64 (k : Int))) (some (.int .i64 ((k : Int) + (m : Int)))) none).run Tryd.prog u = .ok (.slice (fromA a c k) m (c - k)) u := by
  have := run_part Tryd.underlying53 size_u8 a n c k (k + m) (by omega) h u
  rw [Nat.add_sub_cancel_left] at this
  exact this
end Go.Proofs.YtnapechlgjcpbaaDoor
