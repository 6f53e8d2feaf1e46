/- Slices of pairs as arguments. -/
import Derived.Test.YtfklbbjmjkojjaaLine
import Derived.Test.YtfklbbjmjkojjaaOpen
import Derived.Test.YtfklbbjmjkojjaaOpenRecs
namespace Go.Proofs.Ytfklbbjmjkojjaa
open Go.ChangeShapes Go.WideShapes Go.ChangeAt Go.RowKit Go.Joins Go.Deep
section
variable {H : Type} {enc : TypeId × Value → H} {w : World} {base : Nat} {spare : Nat → Bool} {held : Bool}
theorem trod_pair {fuel : Nat} {cs : List Value} {y : DataW H × List MemPlace} (h : DataW.trod enc Try.prog w base spare held fuel 29 cs = some y) : ∃ x : Pr, cs = flatP [x] := by
  have ku : Try.prog.cellsOf 27 = 1 := by kernel_rfl
  have kp : Try.prog.cellsOf 29 = 2 := by kernel_rfl
  obtain ⟨zs, m, _, hz, hl2, hlen2, hg2⟩ := DataW.trod_struct Try.underlying29 h
  rw [kp] at hl2
  match cs, hl2 with
  | [v1, v2], _ =>
    match zs, hlen2 with
    | [z0, z1], _ =>
      have g2 : DataW.trod enc Try.prog w base spare held m 27 [v1] = some z0 := by have := hg2 0 _ rfl; simpa [ku] using this
      have g3 : DataW.trod enc Try.prog w base spare held m 27 [v2] = some z1 := by have := hg2 1 _ rfl; simpa [ku] using this
      obtain ⟨a, rfl, _⟩ := cell_u Try.underlying27 g2
      obtain ⟨b, rfl, _⟩ := cell_u Try.underlying27 g3
      exact ⟨⟨a, b⟩, rfl⟩
theorem open_pairs {r : Reach} {b0 : Nat} {v : Value} {d : DataW H} {ps : List MemPlace} (hval : Value.okWide Try.prog w r b0 22 v) (h : DataW.Trod enc Try.prog w base (fun _ => true) true 22 v d ps) :
    ∃ (A : Option Addr) (c : Nat) (L : List Pr), v = .slice A L.length c ∧ L.length ≤ 9223372036854775807 ∧ LiesC w A (flatP L) := by
  obtain ⟨A, n, c, V, rfl, hn, hr, hV⟩ := open_recs Try.underlying22 (k := 2) (by kernel_rfl) (by omega) hval h
  obtain ⟨O, hO⟩ := choose_below (n := n) (p := fun i x => V i = flatP [x]) (fun i hi => by
    obtain ⟨hl, fuel, y, hy⟩ := hV i hi
    exact trod_pair hy)
  have hlen : ((List.range n).map O).length = n := by simp
  have hn' : ∀ i, i < n → nthP ((List.range n).map O) i = O i := fun i hi => by simp [nthP, List.getD, hi]
  refine ⟨A, c, (List.range n).map O, by rw [hlen], by omega, ?_⟩
  by_cases h0 : 0 < n
  · obtain ⟨b, off, rfl, hb, hx⟩ := hr (by omega)
    refine .inr ⟨b, off, rfl, hb, fun j u hj => ?_⟩
    have hjl : j < n * 2 := by
      rcases Nat.lt_or_ge j (n * 2) with h | h
      · exact h
      · rw [List.getElem?_eq_none (by rw [flatP_length, hlen]; exact h)] at hj; cases hj
    have h3 : j % 2 < 2 := Nat.mod_lt _ (by omega)
    have hq : j / 2 < n := by omega
    have he : j = j / 2 * 2 + j % 2 := by omega
    rw [hx j hjl, ← hj]
    show some ((V (j / 2)).getD (j % 2) undef) = _
    rw [hO _ hq]
    obtain ⟨f0, f1⟩ := flatP_get ((List.range n).map O) (j / 2) (by rw [hlen]; exact hq)
    rw [hn' _ hq] at f0 f1
    generalize j % 2 = r at *
    generalize j / 2 = q at *
    subst he
    match r, h3 with
    | 0, _ => exact f0.symm
    | 1, _ => exact f1.symm
  · obtain rfl : n = 0 := by omega
    exact .inl rfl
end
end Go.Proofs.Ytfklbbjmjkojjaa
