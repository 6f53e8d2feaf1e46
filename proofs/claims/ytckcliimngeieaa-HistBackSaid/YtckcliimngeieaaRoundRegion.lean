/- A region that draws its order within a round of a range over a function, where its operations call nothing: walked as it is elsewhere. -/
import Derived.OrdersIn
import Derived.OrdersHeld
import Derived.Deep.RegionHeld
import Derived.TacticsIn
namespace Go.Proofs.Ytckcliimngeieaa

def calmOp : Op → Bool
  | .move _ | .assign _ | .load _ _ | .store _ _ _ | .fieldAddr _ _ _ | .indexAddr _ _ _ => true
  | _ => false
theorem calm_run {P : Program} {o : Oper} (hc : calmOp o.op = true) (ρ : Operand → Value) (w : World) : (∃ v w', (execOp ρ o).run P w = .ok (.value v) w') ∨ (∃ w', (execOp ρ o).run P w = .ok .skip w') ∨ ∃ h w', (execOp ρ o).run P w = .halt h w' := by
  unfold execOp
  cases ho : o.op <;> rw [ho] at hc <;> first | cases hc | skip
  all_goals
    simp only [Sem.run_bind, Sem.run_pure]
    first
      | (simp; done)
      | (generalize Sem.run P (Instr.storeAt _ _ _) w = r
         cases r <;> (simp [Result.andThen]; done))
      | (generalize Sem.run P (_ : Sem Value) w = r
         cases r <;> simp [Result.andThen])
/-- Left at its end, and no other way. -/
def OnlyN (R : Act → World → Prop) : Exit → Act → World → Prop := fun e a w => e = .normal ∧ R a w
section
variable {F : Fence} {n : Nat} {P : Program} {ops : Array Oper} {Q : Exit → Act → World → Prop} {R : Act → World → Prop} {md : Region.Mode} {S : World → Prop}
theorem wpOpIn_calm {i : Nat} {K K' : Act → World → Prop} {a : Act} {w : World} (hc : ∀ o : Oper, ops[i]? = some o → calmOp o.op = true) (hK : ∀ a w, K a w → K' a w) (h : wpOp P ops (OnlyN R) i K a w) : wpOpIn F n P ops Q i K' a w := by
  unfold wpOp at h
  unfold wpOpIn
  cases ho : ops[i]? with
  | none => rw [ho] at h; exact hK _ _ h
  | some o =>
    rw [ho] at h
    have hco := hc o ho
    have hab : o.about P w a.eval = none := by
      unfold Oper.about
      cases hop : o.op <;> first | rfl | (rw [hop] at hco; cases hco)
    have hsem : o.semAt F.round a.eval = execOp a.eval o := Oper.semAt_eq _ _ _ fun c e => by rw [e] at hco; cases hco
    dsimp only at h ⊢
    by_cases hw : Region.wanted o (yielded ops a.tmps) = true
    · rw [if_pos hw] at h ⊢
      rcases h with h | ⟨_, a', w', h, _⟩
      · unfold Oper.wp at h
        unfold Oper.wpIn
        rw [hab, hsem]
        refine ⟨fun f e => (by cases e), ?_⟩
        rcases calm_run hco a.eval w with ⟨v, w', e⟩ | ⟨w', e⟩ | ⟨x, w', e⟩
        · rw [e] at h ⊢
          exact hK _ _ h
        · rw [e] at h ⊢
          exact hK _ _ h
        · rw [e] at h
          cases x <;> simp [Oper.upon, OnlyN] at h
      · cases h
    · rw [if_neg hw] at h ⊢
      exact ⟨fun f e => (by rw [hab] at e; cases e), hK _ _ h⟩
theorem wpAnyIn_calm (hc : ∀ (i : Nat) (o : Oper), ops[i]? = some o → calmOp o.op = true) (hR : ∀ a w, R a w → Q .normal a w) : ∀ (fuel : Nat) (listed : Array Bool) (a : Act) (w : World), wpAnyH P md ops (OnlyN R) S fuel listed a w → wpAnyIn F n P md ops Q fuel listed a w
  | 0, _, _, _, h => ⟨h.1, hR _ _ h.2.2⟩
  | fuel + 1, _, _, _, h => ⟨fun h0 => hR _ _ (h.1 h0).2, fun i hi => wpOpIn_calm (hc i) (fun a' w' h' => wpAnyIn_calm hc hR fuel _ a' w' h'.2) (h.2 i hi)⟩
/-- The beginning of such a region's walk. -/
theorem wpIn_region_calm {id : Nat} {a : Act} {w : World} (S : World → Prop) (hm : P.follows .mixedOrders = true) (hc : ops.all (fun o => calmOp o.op) = true) (hS : S w.drew)
    (h : S w.drew → wpAnyH P .any ops (OnlyN (Q .normal)) S ops.size (Array.replicate ops.size false) a w.drew) : (Code.region id ops true).wpIn F n P Q a w :=
  wpIn_region_any hm (wpAnyIn_calm (fun i o ho => by
    rw [Array.all_eq_true] at hc
    obtain ⟨hi, e⟩ := Array.getElem?_eq_some_iff.1 ho
    rw [← e]
    exact hc i hi) (fun _ _ h => h) _ _ _ _ (h hS))
end
end Go.Proofs.Ytckcliimngeieaa
