/- A region that draws its order and calls nothing, inside a fence (in a round of a range over a function too): its plain walk serves. Nothing of the program is named here. -/
import Derived.OwnWalkIn
import Derived.OrdersIn
import Derived.Orders
namespace Go.Proofs.Ytdnihphnoibpgaa
set_option linter.unusedVariables false
/-- What never calls. -/
def calmOp (o : Oper) : Bool :=
  match o.op with
  | .move _ | .assign _ | .alloc _ | .box _ _ | .build _ _ | .buildSlice _ _ _ | .load _ _ | .store _ _ _ | .fieldAddr _ _ _ | .indexAddr _ _ _ | .slice _ _ _ _ _ | .binOp _ _ _ _ _ => true
  | .call c => (match c.callee with | .builtin .append => true | .builtin .len => true | _ => false)
  | _ => false
section
variable {F : Fence} {n : Nat} {P : Program} {ops : Array Oper} {Q : Exit → Act → World → Prop} {md : Region.Mode}
theorem run_valued {s : Sem Value} {w : World} : (∃ v w', (do let x ← s; pure (Next.value x) : Sem Next).run P w = .ok (.value v) w' ∧ s.run P w = .ok v w') ∨ (∃ h w', (do let x ← s; pure (Next.value x) : Sem Next).run P w = .halt h w') := by
  rw [Sem.run_bind]
  cases h : s.run P w with
  | ok v w' => exact .inl ⟨v, w', by simp [Result.andThen, Sem.run_pure], rfl⟩
  | halt x w' => exact .inr ⟨x, w', by simp [Result.andThen]⟩
theorem calm_spec {o : Oper} (h : calmOp o = true) (ρ : Operand → Value) (w : World) :
    (∃ v w', (execOp ρ o).run P w = .ok (.value v) w') ∨ (∃ w', (execOp ρ o).run P w = .ok .skip w') ∨ (∃ x w', (execOp ρ o).run P w = .halt x w') := by
  have val : ∀ s : Sem Value, (∃ v w', (do let x ← s; pure (Next.value x) : Sem Next).run P w = .ok (.value v) w') ∨ (∃ w', (do let x ← s; pure (Next.value x) : Sem Next).run P w = .ok .skip w') ∨ (∃ x w', (do let x ← s; pure (Next.value x) : Sem Next).run P w = .halt x w') := fun s => by
    rcases run_valued (P := P) (s := s) (w := w) with ⟨v, w', h, _⟩ | ⟨x, w', h⟩
    · exact .inl ⟨v, w', h⟩
    · exact .inr (.inr ⟨x, w', h⟩)
  have uni : ∀ s : Sem Unit, (∃ v w', (do s; pure Next.skip : Sem Next).run P w = .ok (.value v) w') ∨ (∃ w', (do s; pure Next.skip : Sem Next).run P w = .ok .skip w') ∨ (∃ x w', (do s; pure Next.skip : Sem Next).run P w = .halt x w') := fun s => by
    rw [Sem.run_bind]
    cases h : s.run P w with
    | ok v w' => exact .inr (.inl ⟨w', by simp [Result.andThen, Sem.run_pure]⟩)
    | halt x w' => exact .inr (.inr ⟨x, w', by simp [Result.andThen]⟩)
  unfold calmOp at h
  unfold execOp
  cases hop : o.op <;> simp only [hop] at h ⊢ <;> first
    | exact val _
    | exact uni _
    | exact .inl ⟨_, _, Sem.run_pure _ _ _⟩
    | (cases h; done)
    | skip
  rename_i c
  split at h
  · rename_i hc
    unfold resolve
    simp only [hc, Sem.run_bind, Sem.run_pure, Result.andThen_ok, invoke]
    unfold builtin
    first | exact val _ | skip
  · rename_i hc
    unfold resolve
    simp only [hc, Sem.run_bind, Sem.run_pure, Result.andThen_ok, invoke]
    unfold builtin
    first | exact val _ | skip
  · cases h
theorem calm_about {o : Oper} (h : calmOp o = true) (ρ : Operand → Value) (w : World) : o.about P w ρ = none := by
  unfold calmOp at h
  unfold Oper.about
  cases hop : o.op <;> simp only [hop] at h ⊢
  rename_i c
  unfold resolve
  split at h
  · rename_i hc
    simp only [hc, Sem.run_pure]
    rfl
  · rename_i hc
    simp only [hc, Sem.run_pure]
    rfl
  · cases h
theorem calm_plain {o : Oper} (h : calmOp o = true) : ∀ c, o.op ≠ .defer c := by
  intro c e
  unfold calmOp at h
  rw [e] at h
  cases h
theorem calm_op {o : Oper} (h : calmOp o = true) (hQ : ¬ LetsOut Q) {a : Act} {w : World} {K : Act → World → Prop} (hw : o.wp P a w K Q ∨ (o.asks P a w ∧ LetsOut Q)) : o.wpIn F n P a w K Q := by
  rcases hw with hw | hw
  · refine ⟨fun f hf => (by rw [calm_about h] at hf; exact nomatch hf), ?_⟩
    rw [Oper.semAt_plain F _ _ (calm_plain h)]
    unfold Oper.wp at hw
    rcases calm_spec (P := P) h a.eval w with ⟨v, w', e⟩ | ⟨w', e⟩ | ⟨x, w', e⟩
    · rw [e] at hw ⊢; exact hw
    · rw [e] at hw ⊢; exact hw
    · rw [e] at hw ⊢
      cases x <;> exact hw
  · exact absurd hw.2 hQ
theorem calm_any (hc : ∀ (i : Nat) (o : Oper), ops[i]? = some o → calmOp o = true) (hQ : ¬ LetsOut Q) : ∀ (fuel : Nat) (listed : Array Bool) (a : Act) (w : World), wpAny P md ops Q fuel listed a w → wpAnyIn F n P md ops Q fuel listed a w
  | 0, _, _, _, h => h
  | fuel + 1, _, _, _, h => ⟨h.1, fun i hi => by
      have h1 := h.2 i hi
      unfold wpOp at h1
      unfold wpOpIn
      cases ho : ops[i]? with
      | none => simp only [ho] at h1 ⊢; exact calm_any hc hQ fuel _ _ _ h1
      | some o =>
        simp only [ho] at h1 ⊢
        split at h1
        · rename_i hw
          rw [if_pos hw]
          exact Oper.wpIn_mono (fun a' w' h' => calm_any hc hQ fuel _ a' w' h') (calm_op (hc i o ho) hQ h1)
        · rename_i hw
          rw [if_neg hw]
          exact ⟨fun f hf => (by rw [calm_about (hc i o ho)] at hf; exact nomatch hf), calm_any hc hQ fuel _ _ _ h1⟩⟩
theorem calm_all (h : ops.all calmOp = true) : ∀ (i : Nat) (o : Oper), ops[i]? = some o → calmOp o = true := by
  intro i o ho
  obtain ⟨hi, rfl⟩ := Array.getElem?_eq_some_iff.1 ho
  exact Array.all_eq_true.1 h i hi
theorem wpIn_region_calm {id : Nat} {a : Act} {w : World} (hm : P.follows .mixedOrders = true) (hc : ops.all calmOp = true) (hQ : ¬ LetsOut Q)
    (h : wpAny P .any ops Q ops.size (Array.replicate ops.size false) a w.drew) : (Code.region id ops true).wpIn F n P Q a w :=
  wpIn_region_any hm (calm_any (calm_all hc) hQ _ _ _ _ h)
end
end Go.Proofs.Ytdnihphnoibpgaa
