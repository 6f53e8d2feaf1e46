/- Statement ScriptPuts: whatever the input, the law returns true, and each argument reads behind the call as it read before. Conditions: none beside the row's own. -/
import Derived.Test.YtdbankogamolcaaDoorJ0
import Derived.Test.YtdbankogamolcaaDoorJ5
import Derived.Test.YtdbankogamolcaaDoorJ15
import Derived.Test.YtdbankogamolcaaDoorJ19
import Derived.Test.YtdbankogamolcaaDoorJ17
import Derived.Test.YtdbankogamolcaaDoorCards
import Derived.Test.YtdbankogamolcaaDoorTie
import Derived.SevenTiedAt
namespace Go.Proofs.YtdbankogamolcaaDoor.scriptPuts
set_option linter.unusedSimpArgs false
set_option linter.unusedVariables false
open Go.ChangeShapes Go.WideShapes Go.ChangeAt Go.RowKit
set_option linter.unusedVariables false

set_option maxRecDepth 100000 in
theorem lifted (os : Os) (started : os.Started) (H : Type) (enc : TypeId × Value → H) :
    ReturnsInHanded {} Tryd.checked os 4 .any (fun w args => (Rows.scriptPutsSpec.pre enc Tryd.prog Tryd.f4 [] false w args ∧ laidMetH Tryd.prog Rows.scriptPutsRow.laid w) ∧ sizedMet enc Tryd.prog Tryd.f4 (OpenSpec.ofChange Rows.scriptPutsSpec) false w args)
      (Rows.scriptPutsSpec.post enc Tryd.prog Tryd.f4 false true false false) := by
  refine returnsInHanded_of_change_and (C := Tryd.checked) (X := fun w _ => laidMetH Tryd.prog Rows.scriptPutsRow.laid w) (fun _ _ _ hh h => h.of_heap hh) own started (by kernel_rfl) Tryd.func4
    (ChangeSpec.witness_at (enc := enc) (C := Tryd.checked) (os := os) (X := fun w _ => laidMetH Tryd.prog Rows.scriptPutsRow.laid w) false (laidWorld os) #[.agg (rowOf 23 zeroF), .agg (rowOf 23 zeroF)] 8 rfl (by kernel_rfl) (by kernel_rfl) (by kernel_rfl) (by kernel_rfl) (by kernel_rfl) (laidWorld_met os _)) ?_
  intro W base args ds gs before hval0 hW hcnd _ hL _
  have hval : ∀ (j : Nat) t v, Tryd.f4.params[j]? = some t → args[j]? = some v → Value.okWide Tryd.prog W .any base t v := hval0
  have hW' := hW
  obtain ⟨p, q, hA0, hV, rfl, hfz, hnd⟩ := hW
  have hA : DataW.TrodAll enc Tryd.prog W 0 (fun _ => true) true Tryd.f4.params.toList args.toList ds p := hA0
  rw [Tryd.params4] at hA hval
  obtain ⟨v0, vs0, d0, ds0, p0, q0, hargs, rfl, rfl, h0, r0'⟩ := trodAll_cons hA
  obtain ⟨v1, vs1, d1, ds1, p1, q1, rfl, rfl, rfl, h1, r1'⟩ := trodAll_cons r0'
  obtain ⟨rfl, rfl, rfl⟩ := trodAll_nil r1'
  obtain rfl : args = #[v0, v1] := by cases args; simp_all
  obtain ⟨rfl, rfl⟩ := trodVars_none hV
  have hg := cell_of_laid hL
  have ht := tab_of_laid hL
  obtain ⟨f0, s0, rfl, r0, b0⟩ := open_scr (hval 0 _ v0 rfl rfl) h0
  obtain ⟨f1, s1, rfl, r1, b1⟩ := open_scr (hval 1 _ v1 rfl rfl) h1
  refine (scriptPuts_walk f0 f1 s0 s1 b0 b1 W r0 r1 ⟨hg, ht⟩).mono fun e W' ⟨he, hb⟩ => ?_
  subst he
  exact ⟨_, rfl, post_law (tb := 4) laidOut (by kernel_rfl) (by kernel_rfl) Tryd.underlying4 rfl ⟨rfl, rfl, rfl⟩ hW' hb⟩

theorem row : Rows.ScriptPutsSaid :=
  OpenClaim.holds_of_wide 4 Tryd.f4 rfl rfl rfl rfl rfl rfl rfl ⟨rfl, rfl, rfl, rfl, rfl⟩ rfl rfl rfl rfl rfl (by kernel_rfl) Tryd.func4 (by kernel_rfl)
    (of_decide_eq_true (by kernel_rfl)) (by unfold Func.isWrapper; first | (rw [if_pos (by decide +kernel)]; kernel_rfl) | (rw [if_neg (by decide +kernel)]; exact ⟨rfl, rfl⟩))
    (fun os started H enc _ => lifted os started H enc)

theorem proved : Rows.ScriptPutsCardSaid :=
  Claim7.holds_tied_plain_at .later [] [.data, .data, .data, .handle] true Rows.scriptPutsCard.stood.harness true
    row (fun _ h => by cases h) (by kernel_rfl) (fun _ h => by cases h) scriptPuts_row_tie rfl ⟨rfl, rfl⟩ (by kernel_rfl) rfl
    (fun f fn hf hfn => by
      obtain rfl : f = 4 := Option.some.inj ((show Tryd.prog.funcNamed "burnbag/burnbaglaw18.ScriptPuts" = some 4 by kernel_rfl).symm.trans hf) |>.symm
      obtain rfl : fn = Tryd.f4 := (Option.some.inj (Tryd.func4.symm.trans hfn)).symm
      exact ⟨by kernel_rfl, fun j t ht => by
        rw [Tryd.params4] at ht
        have hall : ∀ j, j < 2 → ∀ t, (#[29, 29] : Array TypeId)[j]? = some t → Tryd.prog.wantsStandIn t = false := by
          intro j hj t ht
          match j, hj with
          | 0, _ => obtain rfl := Option.some.inj ht; exact (show Tryd.prog.wantsStandIn 29 = false by kernel_rfl)
          | 1, _ => obtain rfl := Option.some.inj ht; exact (show Tryd.prog.wantsStandIn 29 = false by kernel_rfl)
        exact hall j (by have := Array.getElem?_eq_some_iff.1 ht; obtain ⟨h, _⟩ := this; exact h) t ht⟩)
    (by kernel_rfl)
#print axioms proved
end Go.Proofs.YtdbankogamolcaaDoor.scriptPuts
