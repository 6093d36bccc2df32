/- A row of bytes that a call made itself: told by the list of its bytes; what append, make and the way back to a text do to it. Nothing of the program is named here. -/
import Derived.WalkKit
import Derived.ProofKit
import Derived.Laws.AppendOwn
import Derived.Laws.MakeOwn
import Derived.Laws.IdiomStrings
import Derived.Below
import Derived.Deep.AppendLies
import Derived.Test.YtgncpiamokeohaaTextPlain
namespace Go.Proofs.Ytgncpiamokeohaa
open Go.RowKit (wrap64 intOf Below)
set_option linter.unusedVariables false

def byteV (c : UInt8) : Value := .int .u8 c.toNat
/-- The slice v is the call's own (from block B on) and holds the bytes l. -/
def OwnsB (w : World) (B : Nat) (e : TypeId) (v : Value) (l : List UInt8) : Prop := w.ownsRow B e 1 v l.length (l.map byteV)

theorem OwnsB.alloc {w : World} {B : Nat} {e : TypeId} {v : Value} {l : List UInt8} (h : OwnsB w B e v l) (o : Obj) : OwnsB (w.alloc o) B e v l := World.ownsRow.alloc h o
theorem OwnsB.drew {w : World} {B : Nat} {e : TypeId} {v : Value} {l : List UInt8} (h : OwnsB w B e v l) : OwnsB w.drew B e v l := h
theorem OwnsB.nil (w : World) (B : Nat) (e : TypeId) : OwnsB w B e (.slice none 0 0) [] := World.ownsRow_nil w B e 1
theorem OwnsB.made {w : World} {B : Nat} {e : TypeId} (cur : Array Value) (cap : Nat) (hB : B ≤ w.heap.size) (hm : cap ≤ maxLen) (hs : cur.size = cap) : OwnsB (w.alloc (.cells cur e)) B e (.slice (some ⟨w.heap.size, 0, none⟩) 0 cap) [] :=
  World.ownsRow_made w cur cap hB hm (by rw [hs, Nat.mul_one])
theorem OwnsB.lt {w : World} {B : Nat} {e : TypeId} {v : Value} {l : List UInt8} (h : OwnsB w B e v l) : ∀ k, v.ownBlock = some k → B ≤ k ∧ k < w.heap.size := World.ownsRow.lt h
theorem OwnsB.shape {w : World} {B : Nat} {e : TypeId} {v : Value} {l : List UInt8} (h : OwnsB w B e v l) : ∃ (a : Option Addr) (c : Nat), v = .slice a l.length c := by
  rcases h.2 with ⟨rfl, h0⟩ | ⟨g, cap, cur, rfl, _⟩
  · rw [h0]; exact ⟨none, 0, rfl⟩
  · exact ⟨_, cap, rfl⟩
/-- A row just built out of bytes. -/
theorem OwnsB.built {w : World} {B : Nat} {e : TypeId} (l : List UInt8) (C : Array Value) (n : Nat) (hC : C = (l.map byteV).toArray) (hB : B ≤ w.heap.size) (hn : l.length = n) (hm : n ≤ maxLen) : OwnsB (w.alloc (.cells C e)) B e (.slice (some ⟨w.heap.size, 0, none⟩) n n) l := by
  subst hn hC
  refine ⟨by simp, .inr ⟨w.heap.size, _, (l.map byteV).toArray, rfl, hB, heap_alloc_new w _, Nat.le_refl _, hm, by simp, ?_⟩⟩
  simp only [Nat.mul_one]
  exact List.take_of_length_le (by simp)

/-- What has grown behind it changes nothing of it. -/
theorem OwnsB.below {w w' : World} {B : Nat} {e : TypeId} {v : Value} {l : List UInt8} (h : OwnsB w B e v l) (hb : Below w.heap.size w w') : OwnsB w' B e v l := by
  refine ⟨h.1, ?_⟩
  rcases h.2 with hn | ⟨g, cap, cur, rfl, hB, hg, rest⟩
  · exact .inl hn
  · refine .inr ⟨g, cap, cur, rfl, hB, ?_, rest⟩
    rw [hb.block g (Array.getElem?_eq_some_iff.1 hg).1]
    exact hg
theorem byteV_one {l : List UInt8} : ∀ u ∈ l.map byteV, u.oneCell' = true := by
  intro u hu
  obtain ⟨c, _, rfl⟩ := List.mem_map.1 hu
  rfl

/-- 'append(b, c1, c2 ..)': bytes that lie in a row just built, behind those that b holds. -/
theorem wpList_append_bytes {P : Program} (w : World) {ops : Array Oper} {rest : List Oper} {o : Oper} {a : Act} {Q : Exit → Act → World → Prop} (hgd : o.guard = none) (s x : Operand) (t : TypeId)
    (ho : o.op = .call { callee := .builtin .append, args := #[s, x], argTypes := #[t, t] }) (e : TypeId) (ht : P.underlying t = some (.slice e))
    (hinfo : (P.info? e).map (fun i => (i.zero, i.size, i.bytes)) = some (some (.int .u8 0), 1, 1))
    (B : Nat) (v : Value) (l : List UInt8) (hs : a.eval s = v) (hown : OwnsB w B e v l) (hB : B ≤ w.heap.size)
    (C : Array Value) (m c g : Nat) (news : List UInt8) (hx : a.eval x = .slice (some ⟨g, 0, none⟩) m c) (hg : g = w.heap.size) (hC : C = (news.map byteV).toArray) (hm : news.length = m)
    (hlen : l.length + m ≤ 140737488355328)
    (h : ∀ v' w', OwnsB w' B e v' (l ++ news) → Below B w w' → w.heap.size < w'.heap.size → wpList P ops Q rest (a.put o.dst v') w') : wpList P ops Q (o :: rest) a (w.alloc (.cells C e)) := by
  obtain ⟨i0, hi, hz0, hz1, hz2⟩ := info_parts hinfo
  subst hC hm hg
  refine wpList_append_own _ hgd s x t ho B e i0 (.int .u8 0) 1 1 ht hi hz0 hz1 hz2 rfl (by decide) v l.length (l.map byteV) hs (hown.alloc _) ⟨w.heap.size, 0, none⟩ news.length c (news.map byteV) hx (by simp) (fun j u hu => ?_) byteV_one (by unfold maxLen; omega) (by omega) (by simp; omega) ?_
  · have hadd : (⟨w.heap.size, 0, none⟩ : Addr).add j = ⟨w.heap.size, j, none⟩ := by unfold Addr.add; split <;> simp_all
    rw [hadd, World.cell?_alloc_mark]
    simpa using hu
  · intro v' w' hown' hgrow _
    refine h v' w' ?_ ?_ ?_
    · show w'.ownsRow B e 1 v' (l ++ news).length ((l ++ news).map byteV)
      rw [List.map_append, List.length_append]
      exact hown'
    · exact Below.grown ((Below.refl B w).alloc hB _) hgrow (by simp; omega) (fun k hk => (hown.lt k hk).1)
    · have := hgrow.size
      simp at this
      omega

/-- The same as one step of a region that draws its order. -/
theorem step_append_bytes {P : Program} {u : World} {ops : Array Oper} {o : Oper} {a : Act} {K : Act → World → Prop} {Q : Exit → Act → World → Prop} {E : Prop} (hgd : o.guard = none) (s x : Operand) (t : TypeId)
    (ho : o.op = .call { callee := .builtin .append, args := #[s, x], argTypes := #[t, t] }) (e : TypeId) (ht : P.underlying t = some (.slice e))
    (hinfo : (P.info? e).map (fun i => (i.zero, i.size, i.bytes)) = some (some (.int .u8 0), 1, 1))
    (B : Nat) (v : Value) (l : List UInt8) (hs : a.eval s = v) (hown : OwnsB u B e v l) (hB : B ≤ u.heap.size)
    (m c g : Nat) (news : List UInt8) (hx : a.eval x = .slice (some ⟨g, 0, none⟩) m c) (fr : Nat × Nat) (hg : u.heap[g]? = some (.cells (news.map byteV).toArray e fr)) (hm : news.length = m) (hpos : 0 < m)
    (hlen : l.length + m ≤ 140737488355328)
    (h : ∀ v' w', OwnsB w' B e v' (l ++ news) → Below B u w' → K (a.put o.dst v') w') :
    if Region.wanted o (yielded ops a.tmps) = true then Oper.wp P o a u K Q else E := by
  obtain ⟨i0, hi, hz0, hz1, hz2⟩ := info_parts hinfo
  subst hm
  refine step_append_lies u hgd s x t ho B e i0 (.int .u8 0) 1 1 ht hi hz0 hz1 hz2 rfl (by decide) v l.length (l.map byteV) hs hown ⟨g, 0, none⟩ news.length c (news.map byteV) hx (by simp) (World.news_of_block hg) byteV_one hpos (by unfold maxLen; omega) (by omega) hB u.heap.size rfl ?_
  intro g' cap w' hown' hgrow hat hlt
  refine h _ w' ?_ ?_
  · show w'.ownsRow B e 1 (.slice (some ⟨g', 0, none⟩) (l.length + news.length) cap) (l ++ news).length ((l ++ news).map byteV)
    rw [List.map_append, List.length_append]
    exact hown'
  · exact Below.grown (Below.refl B u) hgrow hB (fun k hk => (hown.lt k hk).1)

/-- 'string(b)' of bytes that the call made. -/
theorem run_string_own {P : Program} {w : World} {B : Nat} {e : TypeId} {v : Value} {l : List UInt8} (h : OwnsB w B e v l) (src dst : TypeId) (hs : P.underlying src = some (.slice e)) (he : P.underlying e = some (.int .u8)) (hd : P.underlying dst = some .string)
    (hne : l ≠ []) : (convert src dst v).run P w = .ok (.string (mk l)) w := by
  have hown := h
  rcases h.2 with ⟨_, h0⟩ | ⟨g, cap, cur, rfl, _⟩
  · exact absurd (List.eq_nil_of_length_eq_zero h0) hne
  · exact run_convert_bytes_back w src dst e ⟨g, 0, none⟩ cap l hs he hd (fun j hj => by
      have := World.ownsRow.cells hown (g := g) rfl j (byteV l[j]) (by rw [List.getElem?_map, List.getElem?_eq_getElem hj]; rfl)
      exact this)
/-- 'string(b)' of a row that the call made, also one of no bytes. -/
theorem run_string_own_any {P : Program} {w : World} {B : Nat} {e : TypeId} {v : Value} {l : List UInt8} (h : OwnsB w B e v l) (src dst : TypeId) (hs : P.underlying src = some (.slice e)) (he : P.underlying e = some (.int .u8)) (hd : P.underlying dst = some .string)
    (hne : v ≠ .slice none 0 0) : (convert src dst v).run P w = .ok (.string (mk l)) w := by
  have hown := h
  rcases h.2 with ⟨rfl, h0⟩ | ⟨g, cap, cur, rfl, _⟩
  · exact absurd rfl hne
  · exact run_convert_bytes_back w src dst e ⟨g, 0, none⟩ cap l hs he hd (fun j hj => by
      have := World.ownsRow.cells hown (g := g) rfl j (byteV l[j]) (by rw [List.getElem?_map, List.getElem?_eq_getElem hj]; rfl)
      exact this)
/-- 'string(b)' of whatever bytes of the call's own. -/
theorem run_string_own_all {P : Program} {w : World} {B : Nat} {e : TypeId} {v : Value} {l : List UInt8} (h : OwnsB w B e v l) (src dst : TypeId) (hs : P.underlying src = some (.slice e)) (he : P.underlying e = some (.int .u8)) (hd : P.underlying dst = some .string) :
    (convert src dst v).run P w = .ok (.string (mk l)) w := by
  by_cases hv : v = .slice none 0 0
  · have h0 : l = [] := by
      rcases h.2 with ⟨_, h0⟩ | ⟨g, cap, cur, hv', _⟩
      · exact List.eq_nil_of_length_eq_zero h0
      · rw [hv] at hv'; cases hv'
    subst hv h0
    rw [run_convert_bytes_string w src dst e none 0 0 hs he hd]
    simp [Conv.bytesToString]
    rfl
  · exact run_string_own_any h src dst hs he hd hv
end Go.Proofs.Ytgncpiamokeohaa
