/- A step that came in, where what it holds is of a bounded bulk: its text and its list are bounded too. Nothing of the program is named here. -/
import Derived.Test.YtfnkmigcklmghaaDoorLiftO
import Derived.Test.YtfnkmigcklmghaaDoorRows
namespace Go.Proofs.YtfnkmigcklmghaaDoor
open Go.ChangeShapes Go.WideShapes Go.ChangeAt Go.RowKit Go.Joins Go.Deep
set_option linter.unusedVariables false

theorem bulk_pos {H : Type} (d : DataW H) : 1 ≤ Rows.uptoBulk d := by
  cases d with
  | lit l => cases l <;> simp [Rows.uptoBulk]
  | _ => simp [Rows.uptoBulk]
theorem bulk_len {H : Type} : ∀ l : List (DataW H), l.length ≤ Rows.uptoBulkAll l
  | [] => Nat.zero_le _
  | d :: l => by
    have h1 := bulk_pos d
    have h2 := bulk_len l
    simp only [List.length_cons, Rows.uptoBulkAll]
    omega
section
variable {H : Type} {enc : TypeId × Value → H} {P : Program} {W : World}
theorem open_op_upto {b0 : Nat} {t ti tn tS tl tb : TypeId} {f0 f1 f2 f3 f4 f5 f6 f7 : Field} {v : Value} {d : DataW H} {p : List MemPlace} (hs : P.underlying t = some (.struct #[f0, f1, f2, f3, f4, f5, f6, f7])) (hone : oneCellFields P #[f0, f1, f2, f3, f4, f5, f6, f7] = true) (hC : P.cellsOf t = 8)
    (e0 : f0.type = ti) (e1 : f1.type = ti) (e2 : f2.type = ti) (e3 : f3.type = ti) (e4 : f4.type = tn) (e5 : f5.type = tS) (e6 : f6.type = tl) (e7 : f7.type = tb)
    (hti : P.underlying ti = some (.int .i64)) (htn : P.underlying tn = some (.int .i64)) (htS : P.underlying tS = some .string) (htl : P.underlying tl = some (.slice ti)) (htb : P.underlying tb = some .bool) (hc : P.cellsOf ti = 1) (h8 : P.bytesOf ti = 8)
    (hv : Value.okWide P W .any b0 t v) (h : DataW.Trod enc P W 0 (fun _ => true) true t v d p) (hlt : ∀ x ∈ p, x.block < W.heap.size)
    {ts : List TypeId} {ds : List (DataW H)} (hsz : (DataW.weightsEach P ts ds).all (· ≤ reachBytes) = true) {j : Nat} (hj : ts[j]? = some t) (hd : ds[j]? = some d) (hbulk : Rows.uptoBulk d ≤ 1048576) :
    ∃ K A B C N S la ln lc T L, OpIn W v K A B C N S la ln lc T L ∧ S.size ≤ 1048576 ∧ ln ≤ 1048576 := by
  obtain ⟨v0, v1, v2, v3, v4, v5, v6, v7, y0, y1, y2, y3, y4, y5, y6, y7, n, rfl, rfl, rfl, g0, g1, g2, g3, g4, g5, g6, g7⟩ := open_agg8 hs hone hC hv h
  have hw := sized_agg hsz hj hd hs
  simp only [List.map_cons, List.map_nil] at hw
  rw [e0] at g0; rw [e1] at g1; rw [e2] at g2; rw [e3] at g3; rw [e4] at g4; rw [e5] at g5; rw [e6] at g6; rw [e7] at g7
  obtain ⟨K, hk, hk', rK⟩ := DataW.trod_int hti g0
  obtain ⟨A, ha, ha', rA⟩ := DataW.trod_int hti g1
  obtain ⟨B, hb, hb', rB⟩ := DataW.trod_int hti g2
  obtain ⟨C, hcc, hcc', rC⟩ := DataW.trod_int hti g3
  obtain ⟨N, hN, hN', rN⟩ := DataW.trod_int htn g4
  obtain ⟨S, hS, hS', rS⟩ := DataW.trod_string htS g5
  obtain ⟨T, hT, hT'⟩ := DataW.trod_bool htb g7
  obtain ⟨la, ln, lc, L, rfl, h1, h2, h3, h4, h5⟩ := open_nums_field htl hti hc h8 g6 (fun x hx => hlt x (by simp [hx])) hw (j := 6) (by simp [e6]) rfl
  simp only [List.cons.injEq, and_true] at hk ha hb hcc hN hS hT
  subst hk ha hb hcc hN hS hT
  have hs5 := sized_string hw (j := 5) (bytes := S.data.toList) rfl (by rw [hS']; rfl)
  simp only [Rows.uptoBulk, Rows.uptoBulkAll, hS'] at hbulk
  have hl : ln ≤ Rows.uptoBulk y6.1 := by
    rcases h5 with h5 | ⟨zs, sp, h5, hlen⟩
    · omega
    · rw [h5]
      have h6 := bulk_len (lits (H := H) .i64 zs)
      have h7 : (lits (H := H) .i64 zs).length = zs.length := by simp [lits]
      simp only [Rows.uptoBulk]
      omega
  refine ⟨K, A, B, C, N, S, la, ln, lc, T, L, ⟨rfl, wf_i64_range rK, wf_i64_range rA, wf_i64_range rB, wf_i64_range rC, wf_i64_range rN, ?_, h1, h2, h3, h4⟩, ?_, by omega⟩
  · rw [list_len] at hs5
    simpa [reachBytes] using hs5
  · rw [list_len] at hbulk
    omega
end
end Go.Proofs.YtfnkmigcklmghaaDoor
