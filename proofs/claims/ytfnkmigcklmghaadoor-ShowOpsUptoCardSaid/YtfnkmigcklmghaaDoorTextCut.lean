/- Layer 2, P2.1 and P2.4: text.Cut, walked, and what the statement TextCuts asks of it. -/
import Derived.Test.YtfnkmigcklmghaaDoorOwnB
import Derived.Test.YtfnkmigcklmghaaDoorTextPlainC
import Derived.Test.YtfnkmigcklmghaaDoorRows
import Derived.Lib.Hide
import Derived.Lib.IndexBytes
import Derived.Outline
import Derived.Deep.QuietTactic
import Derived.BigQuiet
import Derived.IntWalk
import Derived.Handy
namespace Go.Proofs.YtfnkmigcklmghaaDoor
open Go.RowKit (wrap64 intOf Below)
set_option linter.unusedVariables false

theorem info_str : (Tryd.prog.info? 9).map (fun i => (i.zero, i.size, i.bytes)) = some (some (.string ⟨#[]⟩), 1, 16) := by kernel_rfl

/-- The slice v is the call's own (from block B on) and holds the texts l. -/
def OwnsS (w : World) (B : Nat) (e : TypeId) (v : Value) (l : List ByteArray) : Prop := w.ownsRow B e 1 v l.length (l.map Value.string)
theorem OwnsS.nil (w : World) (B : Nat) (e : TypeId) : OwnsS w B e (.slice none 0 0) [] := World.ownsRow_nil w B e 1
theorem OwnsS.lt {w : World} {B : Nat} {e : TypeId} {v : Value} {l : List ByteArray} (h : OwnsS w B e v l) : ∀ k, v.ownBlock = some k → B ≤ k ∧ k < w.heap.size := World.ownsRow.lt h
/-- Texts of the call's own, behind it: where they lie. -/
def StrsAt (w : World) (g : Nat) (l : List ByteArray) : Prop := ∀ j (h : j < l.length), w.cell? ⟨g, j, none⟩ = some (.string l[j])
theorem OwnsS.shape {w : World} {B : Nat} {e : TypeId} {v : Value} {l : List ByteArray} (h : OwnsS w B e v l) :
    (v = .slice none 0 0 ∧ l = []) ∨ ∃ g c, v = .slice (some ⟨g, 0, none⟩) l.length c ∧ l.length ≤ c ∧ c ≤ maxLen ∧ g < w.heap.size ∧ StrsAt w g l := by
  have hown := h
  rcases h.2 with ⟨rfl, h0⟩ | ⟨g, cap, cur, rfl, _, hg, h1, h2, _⟩
  · exact Or.inl ⟨rfl, List.eq_nil_of_length_eq_zero h0⟩
  · refine Or.inr ⟨g, cap, rfl, h1, h2, (hown.lt g rfl).2, fun j hj => ?_⟩
    have := World.ownsRow.cells hown (g := g) rfl j (.string l[j]) (by rw [List.getElem?_map, List.getElem?_eq_getElem hj]; rfl)
    have hadd : (⟨g, 0, none⟩ : Addr).add j = ⟨g, j, none⟩ := by unfold Addr.add; split <;> simp_all
    rwa [hadd] at this
theorem str_one {l : List ByteArray} : ∀ u ∈ l.map Value.string, u.oneCell' = true := by
  intro u hu
  obtain ⟨c, _, rfl⟩ := List.mem_map.1 hu
  rfl
/-- 'append(l, s)': a text behind the others. -/
theorem wpList_append_str {P : Program} (w : World) {ops : Array Oper} {rest : List Oper} {o : Oper} {a : Act} {Q : Exit → Act → World → Prop} (hgd : o.guard = none) (s x : Operand) (t : TypeId)
    (ho : o.op = .call { callee := .builtin .append, args := #[s, x], argTypes := #[t, t] }) (e : TypeId) (ht : P.underlying t = some (.slice e))
    (hinfo : (P.info? e).map (fun i => (i.zero, i.size, i.bytes)) = some (some (.string ⟨#[]⟩), 1, 16))
    (B : Nat) (v : Value) (l : List ByteArray) (hs : a.eval s = v) (hown : OwnsS w B e v l) (hB : B ≤ w.heap.size)
    (C : Array Value) (c g : Nat) (p : ByteArray) (hx : a.eval x = .slice (some ⟨g, 0, none⟩) 1 c) (hg : g = w.heap.size) (hC : C = #[.string p])
    (hlen : (l.length + 1) * 16 ≤ 140737488355328)
    (h : ∀ v' w', OwnsS w' B e v' (l ++ [p]) → Below B w w' → wpList P ops Q rest (a.put o.dst v') w') : wpList P ops Q (o :: rest) a (w.alloc (.cells C e)) := by
  obtain ⟨i0, hi, hz0, hz1, hz2⟩ := info_parts hinfo
  subst hC hg
  refine wpList_append_own _ hgd s x t ho B e i0 (.string ⟨#[]⟩) 1 16 ht hi hz0 hz1 hz2 rfl (by decide) v l.length (l.map Value.string) hs (World.ownsRow.alloc hown _) ⟨w.heap.size, 0, none⟩ 1 c [.string p] hx rfl (fun j u hu => ?_) (by intro u hu; simp at hu; subst hu; rfl) (by unfold maxLen; omega) hlen (by simp; omega) ?_
  · have hadd : (⟨w.heap.size, 0, none⟩ : Addr).add j = ⟨w.heap.size, j, none⟩ := by unfold Addr.add; split <;> simp_all
    rw [hadd, World.cell?_alloc_mark]
    simpa using hu
  · intro v' w' hown' hgrow _
    refine h v' w' ?_ ?_
    · show w'.ownsRow B e 1 v' (l ++ [p]).length ((l ++ [p]).map Value.string)
      rw [List.map_append, List.length_append]
      exact hown'
    · exact Below.grown ((Below.refl B w).alloc hB _) hgrow (by simp; omega) (fun k hk => (hown.lt k hk).1)

def sizeV2 : Value → Nat | .string t => t.size | _ => 0
def CutPost (L : List UInt8) (N : Nat) (w : World) (e : Ending) (w' : World) : Prop :=
  ∃ (v : Value) (ps : List ByteArray), e = .returned v ∧ CutOf L N ps ∧ OwnsS w' w.heap.size 9 v ps ∧ Below w.heap.size w w'

theorem split_at (x : ByteArray) (n : Nat) (h : n ≤ x.size) : x.data.toList = (x.extract 0 n).data.toList ++ (x.extract n x.size).data.toList ∧ (x.extract 0 n).size = n ∧ (x.extract n x.size).size = x.size - n := by
  have e1 : (x.extract 0 n).data.toList = x.data.toList.take n := by rw [Lib.extract_data]; simp
  have e2 : (x.extract n x.size).data.toList = x.data.toList.drop n := Lib.extract_to_end x n
  refine ⟨by rw [e1, e2, List.take_append_drop], ?_, ?_⟩
  · rw [← list_len, e1, List.length_take, list_len]; omega
  · rw [← list_len, e2, List.length_drop, list_len]

end Go.Proofs.YtfnkmigcklmghaaDoor
