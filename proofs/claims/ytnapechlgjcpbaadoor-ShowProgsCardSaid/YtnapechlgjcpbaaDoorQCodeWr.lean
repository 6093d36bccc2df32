/- Layer 5: the writer (code.writer): what it has written, and what its two calls make of it. -/
import Derived.Test.YtnapechlgjcpbaaDoorQCodePlain
import Derived.Test.YtnapechlgjcpbaaDoorQT0
import Derived.Test.YtnapechlgjcpbaaDoorQT2
import Derived.Deep.RegionHeld3
import Derived.Deep.RegionLaw
import Derived.Deep.AppendLies
import Derived.Deep.DrawnRows
import Derived.WalkSmall
namespace Go.Proofs.YtnapechlgjcpbaaDoor
open Go.RowKit (wrap64 intOf Below)
set_option linter.unusedVariables false
attribute [local go_sem ↓] Go.wp_at_zero Go.wp_at_succ

/-- What a writer may turn. -/
def WX (x : Nat) (v : Value) : Nat → Prop := fun k => k = x ∨ v.ownBlock = some k
/-- Its memory is the same, or new. -/
def NewAt (w : World) (v v' : Value) : Prop := ∀ k, v'.ownBlock = some k → v.ownBlock = some k ∨ w.heap.size ≤ k
theorem NewAt.refl (w : World) (v : Value) : NewAt w v v := fun k h => .inl h
theorem NewAt.trans {w w1 : World} {v v1 v2 : Value} (h : NewAt w v v1) (h' : NewAt w1 v1 v2) (hs : w.heap.size ≤ w1.heap.size) : NewAt w v v2 := fun k hk => by
  rcases h' k hk with h1 | h1
  · exact h k h1
  · exact .inr (by omega)
/-- Two steps, one behind the other. -/
theorem Off.wr {w w1 w2 : World} {x : Nat} {v v1 : Value} (h : Off (WX x v) w w1) (hn : NewAt w v v1) (h' : Off (WX x v1) w1 w2) : Off (WX x v) w w2 :=
  h.trans_new h' (fun i hi => by
    rcases hi with rfl | hi
    · exact .inl (.inl rfl)
    · rcases hn i hi with h1 | h1
      · exact .inl (.inr h1)
      · exact .inr h1)

/-- 'append(b, x...)' at a step of a region that draws: b the call's own, x whatever is read. -/
theorem step_append_wr {P : Program} {u : World} {ops : Array Oper} {o : Oper} {a : Act} {K : Act → World → Prop} {Q : Exit → Act → World → Prop} {E : Prop} (hgd : o.guard = none) (s x : Operand) (t : TypeId)
    (ho : o.op = .call { callee := .builtin .append, args := #[s, x], argTypes := #[t, t] }) (e : TypeId) (ht : P.underlying t = some (.slice e))
    (hinfo : (P.info? e).map (fun i => (i.zero, i.size, i.bytes)) = some (some (.int .u8 0), 1, 1))
    (B : Nat) (v : Value) (l : List UInt8) (hs : a.eval s = v) (hown : OwnsB u B e v l) (hB : B ≤ u.heap.size)
    (xa : Option Addr) (m c : Nat) (news : List UInt8) (hx : a.eval x = .slice xa m c) (hat : BytesAt u xa m c news) (hpos : 0 < m) (hlen : l.length + m ≤ 140737488355328)
    (h : ∀ va vn vc w', OwnsB w' B e (.slice va vn vc) (l ++ news) → u.grownBy w' v.ownBlock → NewAt u v (.slice va vn vc) → K (a.put o.dst (.slice va vn vc)) w') :
    if Region.wanted o (yielded ops a.tmps) = true then Oper.wp P o a u K Q else E := by
  obtain ⟨i0, hi, hz0, hz1, hz2⟩ := info_parts hinfo
  obtain ⟨h1, h2, h3, h4, h5, h6⟩ := hat
  subst h1
  obtain ⟨g, off, rfl, hg⟩ := h5 hpos
  refine step_append_lies u hgd s x t ho B e i0 (.int .u8 0) 1 1 ht hi hz0 hz1 hz2 rfl (by decide) v l.length (l.map byteV) hs hown ⟨g, off, none⟩ news.length c (news.map byteV) hx (by simp) (fun j z hz => ?_) byteV_one hpos (by unfold maxLen; omega) (by omega) hB u.heap.size rfl ?_
  · rw [List.getElem?_map] at hz
    obtain ⟨y, hy, rfl⟩ := Option.map_eq_some_iff.1 hz
    obtain ⟨hj, rfl⟩ := List.getElem?_eq_some_iff.1 hy
    exact h6 _ rfl j hj
  · intro g' cap w' hown' hgrow hat' hlt
    refine h _ _ _ w' ?_ hgrow ?_
    · show w'.ownsRow B e 1 _ (l ++ news).length ((l ++ news).map byteV)
      rw [List.map_append, List.length_append]
      exact hown'
    · intro k hk
      simp only [Value.ownBlock, Option.some.injEq] at hk
      subst hk
      rcases hat' with h' | h'
      · exact .inl h'
      · exact .inr (by omega)

def outText (s : ByteArray) : Out := (chk (decide (s.size ≤ 64)) 2).and (.ok (putS s))
theorem putS_len {s : ByteArray} (h : s.size ≤ 64) : 1 ≤ (putS s).length ∧ (putS s).length ≤ 74 := by
  have := putL_len (s.size : Int)
  have := putL_pos (s.size : Int)
  simp only [putS, List.length_append, list_len]
  omega
end Go.Proofs.YtnapechlgjcpbaaDoor
