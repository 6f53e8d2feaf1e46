/- What follows of what a warden is, before any program. -/
import Derived.Test.YtlldhkcimlmaoaaWardLives
namespace Go.Proofs.Ytlldhkcimlmaoaa
set_option linter.unusedVariables false

def doW (s : Ward) (o : OpW) : Ward := bif o.t then takeW s o.l o.s else dropW s o.l o.s
def doWB (s : Ward) (o : OpW) : Bool := bif o.t then takeB s o.l o.s else s.held o.l o.s
theorem okW_do {s : Ward} {N : Nat} (h : OkW s N) (o : OpW) : OkW (doW s o) (N + 1) := by
  unfold doW
  cases o.t
  · exact okW_drop h _ _
  · exact okW_take h _ _
theorem mkL_parts2 {y g : Nat} (hy : y < 256) (hg : g < 4294967296) : mkL y g % 256 = y ∧ mkL y g / 256 % 4294967296 = g := by
  unfold mkL
  omega
section
variable {s : Ward} {N : Nat} (hs : OkW s N) (hN : N < 1000000)
include hs hN
/-- A slot's own link leads there just if it is held. -/
theorem leads_link (x y : Int) : leadsB s x (linkV s x y) = s.held x y := by
  unfold linkV
  cases hh : hasB s x y
  · have h1 : s.held x y = false := by
      cases h2 : s.held x y
      · rfl
      · rw [hs.in_ x y h2] at hh; cases hh
    have h3 : s.held x (0 : Nat) = false := by
      cases h2 : s.held x (0 : Nat)
      · rfl
      · have := hasB_iff.1 (hs.in_ x _ h2); omega
    rw [h1]
    show leadsB s x 0 = false
    unfold leadsB
    show (s.held x (0 : Nat) && _) = false
    rw [h3, Bool.false_and]
  · have h1 := hasB_iff.1 hh
    have h2 := hs.s60
    have h3 := hs.gens x.toNat y.toNat
    obtain ⟨j, rfl⟩ : ∃ j : Nat, y = j := ⟨y.toNat, by omega⟩
    obtain ⟨e1, e2⟩ := mkL_parts2 (y := j) (g := s.gen x.toNat j) (by omega) (by have : s.gen x.toNat j ≤ N := h3; omega)
    show leadsB s x (mkL j (s.gen x.toNat j)) = _
    unfold leadsB
    rw [e1, e2, decide_eq_true rfl, Bool.and_true]
theorem link_slot {x y : Int} (h : s.held x y = true) : linkV s x y % 256 = y.toNat ∧ linkV s x y / 256 % 4294967296 = s.gen x.toNat y.toNat ∧ (y.toNat : Int) = y ∧ y.toNat < 61 ∧ y.toNat ≠ 0 := by
  have hh := hs.in_ x y h
  have h1 := hasB_iff.1 hh
  have h2 := hs.s60
  have h3 := hs.gens x.toNat y.toNat
  obtain ⟨j, rfl⟩ : ∃ j : Nat, y = j := ⟨y.toNat, by omega⟩
  have e0 : linkV s x j = mkL j (s.gen x.toNat j) := by unfold linkV; rw [hh]; rfl
  obtain ⟨e1, e2⟩ := mkL_parts2 (y := j) (g := s.gen x.toNat j) (by omega) (by have : s.gen x.toNat j ≤ N := h3; omega)
  rw [e0, e1, e2]
  exact ⟨rfl, rfl, rfl, by show j < 61; omega, by show j ≠ 0; omega⟩
end
/-- Another level isn't changed. -/
theorem do_other (s : Ward) (o : OpW) (x : Int) (h : o.l ≠ x) (hx : 0 ≤ x ∨ True) : (∀ y, (doW s o).held x y = s.held x y) ∧ (∀ y, hasB (doW s o) x y = hasB s x y) ∧ (∀ j : Nat, 0 ≤ x → (doW s o).gen x.toNat j = s.gen x.toNat j) := by
  have hp : ∀ y, (putW s o.l o.s).held x y = s.held x y := fun y => by
    show (decide (x = o.l ∧ y = o.s) || s.held x y) = _
    rw [decide_eq_false (fun e => h e.1.symm), Bool.false_or]
  have hd : ∀ y, (delW s o.l o.s).held x y = s.held x y := fun y => by
    show (!decide (x = o.l ∧ y = o.s) && s.held x y) = _
    rw [decide_eq_false (fun e => h e.1.symm), Bool.not_false, Bool.true_and]
  have hg : ∀ j : Nat, 0 ≤ x → (delW s o.l o.s).gen x.toNat j = s.gen x.toNat j := fun j h0 => by
    show (bif decide (((x.toNat : Nat) : Int) = o.l ∧ (j : Int) = o.s) then s.gen x.toNat j + 1 else s.gen x.toNat j) = _
    rw [decide_eq_false (fun e => h (by omega))]
    rfl
  unfold doW takeW dropW
  cases o.t <;> cases takeB s o.l o.s <;> cases s.held o.l o.s <;> first | exact ⟨hp, fun _ => rfl, fun _ _ => rfl⟩ | exact ⟨hd, fun _ => rfl, hg⟩ | exact ⟨fun _ => rfl, fun _ => rfl, fun _ _ => rfl⟩
theorem do_link (s : Ward) (o : OpW) (x y : Int) (h : o.l ≠ x) : linkV (doW s o) x y = linkV s x y := by
  obtain ⟨_, h2, h3⟩ := do_other s o x h (.inr trivial)
  unfold linkV
  rw [h2 y]
  cases hh : hasB s x y
  · rfl
  · have := hasB_iff.1 hh
    rw [h3 _ (by omega)]
theorem do_heldN (s : Ward) (o : OpW) (x : Int) (h : o.l ≠ x) : heldN (doW s o) x = heldN s x := by
  obtain ⟨h1, _, _⟩ := do_other s o x h (.inr trivial)
  exact cnt_congr 61 fun j _ => h1 j
theorem do_leads {s : Ward} {N : Nat} (hs : OkW s N) (o : OpW) (x : Int) (v : Nat) (h : o.l ≠ x) : leadsB (doW s o) x v = leadsB s x v := by
  obtain ⟨h1, _, h3⟩ := do_other s o x h (.inr trivial)
  unfold leadsB
  rw [h1]
  cases hh : s.held x (v % 256 : Nat)
  · rfl
  · have := hasB_iff.1 (hs.in_ _ _ hh)
    rw [h3 _ (by omega)]
/-- What was held, and not dropped, is held, of the same generation. -/
theorem do_kept (s : Ward) (o : OpW) (x y : Int) (h : s.held x y = true) (hx : 0 ≤ x) (hy : 0 ≤ y) (hn : ¬ (o.l = x ∧ o.s = y ∧ o.t = false)) : (doW s o).held x y = true ∧ (doW s o).gen x.toNat y.toNat = s.gen x.toNat y.toNat := by
  unfold doW takeW dropW
  cases ht : o.t
  · have hne : ¬ (x = o.l ∧ y = o.s) := fun e => hn ⟨e.1.symm, e.2.symm, ht⟩
    cases s.held o.l o.s
    · exact ⟨h, rfl⟩
    · refine ⟨?_, ?_⟩
      · show (!decide (x = o.l ∧ y = o.s) && s.held x y) = true
        rw [decide_eq_false hne, h]; rfl
      · show (bif decide (((x.toNat : Nat) : Int) = o.l ∧ ((y.toNat : Nat) : Int) = o.s) then s.gen x.toNat y.toNat + 1 else s.gen x.toNat y.toNat) = _
        rw [decide_eq_false (fun e => hne (by omega))]
        rfl
  · cases takeB s o.l o.s
    · exact ⟨h, rfl⟩
    · refine ⟨?_, rfl⟩
      show (decide (x = o.l ∧ y = o.s) || s.held x y) = true
      rw [h, Bool.or_true]
/-- A slot that was held and is dropped. -/
theorem del_facts (s : Ward) {N : Nat} (hs : OkW s N) (x y : Int) (h : s.held x y = true) : (delW s x y).held x y = false ∧ heldN s x = heldN (delW s x y) x + 1 ∧ hasB (delW s x y) x y = true ∧ (delW s x y).gen x.toNat y.toNat = s.gen x.toNat y.toNat + 1 := by
  have hh := hs.in_ x y h
  have h1 := hasB_iff.1 hh
  have h2 := hs.s60
  obtain ⟨j, rfl⟩ : ∃ j : Nat, y = j := ⟨y.toNat, by omega⟩
  have e0 : (delW s x j).held x j = false := by
    show (!decide (x = x ∧ (j : Int) = j) && s.held x j) = false
    rw [decide_eq_true ⟨rfl, rfl⟩]; rfl
  refine ⟨e0, ?_, hh, ?_⟩
  · refine cnt_one 61 j (by omega) e0 h (fun i _ hi => ?_)
    show s.held x i = (!decide (x = x ∧ (i : Int) = j) && s.held x i)
    rw [decide_eq_false (fun e => hi (by omega)), Bool.not_false, Bool.true_and]
  · show (bif decide (((x.toNat : Nat) : Int) = x ∧ ((j : Nat) : Int) = j) then s.gen x.toNat j + 1 else s.gen x.toNat j) = _
    rw [decide_eq_true ⟨by omega, rfl⟩]
    rfl
end Go.Proofs.Ytlldhkcimlmaoaa
