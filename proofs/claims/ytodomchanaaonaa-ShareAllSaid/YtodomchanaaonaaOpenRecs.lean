/- A slice of structs as an argument, element by element. -/
import Derived.Test.YtodomchanaaonaaOpen
namespace Go.Proofs.Ytodomchanaaonaa
open Go.ChangeShapes Go.WideShapes Go.ChangeAt Go.RowKit Go.Joins Go.Deep
section
variable {H : Type} {enc : TypeId × Value → H} {P : Program} {w : World} {base : Nat}
theorem choose_below {α : Type} [Inhabited α] {n : Nat} {p : Nat → α → Prop} (h : ∀ i, i < n → ∃ x, p i x) : ∃ f : Nat → α, ∀ i, i < n → p i (f i) := by
  refine ⟨fun i => if hi : i < n then Classical.choose (h i hi) else default, fun i hi => ?_⟩
  show p i (if hi : i < n then _ else _)
  rw [dif_pos hi]
  exact Classical.choose_spec (h i hi)
/-- A slice whose elements have k cells each: V i is the i-th one's cells. -/
theorem open_recs {t e : TypeId} {k : Nat} {r : Reach} {b0 : Nat} {v : Value} {d : DataW H} {ps : List MemPlace} (ht : P.underlying t = some (.slice e)) (hk : P.cellsOf e = k) (hpos : 0 < k)
    (hval : Value.okWide P w r b0 t v) (h : DataW.Trod enc P w base (fun _ => true) true t v d ps) :
    ∃ (A : Option Addr) (n c : Nat) (V : Nat → List Value), v = .slice A n c ∧ n ≤ 9223372036854775807 ∧ RowIs w A (n * k) (fun i => (V (i / k)).getD (i % k) undef) ∧
      ∀ i, i < n → (V i).length = k ∧ ∃ fuel y, DataW.trod enc P w base (fun _ => true) true fuel e (V i) = some y := by
  obtain ⟨A, n, c, rfl⟩ := okWide_slice ht hval
  obtain ⟨fuel, hf⟩ := h
  rcases open_slice ht hf with ⟨hcs, hx⟩ | ⟨a, len, cap, m, n', D, Pl, hcs, _, hl, hm, hmm, _, hx⟩
  · simp [Value.cells] at hcs
    obtain ⟨rfl, rfl, rfl⟩ := hcs
    exact ⟨none, 0, 0, fun _ => [], rfl, by omega, by rw [Nat.zero_mul]; exact RowIs.none_ _ _ _, fun i hi => by omega⟩
  · simp [Value.cells] at hcs
    obtain ⟨rfl, rfl, rfl⟩ := hcs
    rw [hk] at hx
    have hnm : n ≤ m := by rw [hmm]; split <;> omega
    unfold maxLen at hm
    obtain ⟨V, hV⟩ := choose_below (n := n) (p := fun i cs' => w.cells? base (a.add (i * k)) k = some cs' ∧ DataW.trod enc P w base (fun _ => true) true n' e cs' = some (D i, Pl i)) (fun i hi => hx i (by omega))
    have hlen : ∀ i, i < n → (V i).length = k := fun i hi => (World.cells?_some (hV i hi).1).2.1
    refine ⟨some a, n, c, V, rfl, by omega, fun hn => ?_, fun i hi => ⟨hlen i hi, n', _, (hV i hi).2⟩⟩
    have hn0 : 0 < n := Nat.pos_of_mul_pos_right hn |> fun _ => by
      rcases Nat.eq_zero_or_pos n with h0 | h0
      · rw [h0, Nat.zero_mul] at hn; omega
      · exact h0
    have h0 := (World.cells?_some (hV 0 hn0).1).2.2 0 hpos
    rw [List.getElem?_eq_getElem (by rw [hlen 0 hn0]; exact hpos)] at h0
    obtain ⟨b, off, spot⟩ := a
    have hspot : spot = none := by simpa [Addr.add] using World.cell?_spot h0
    subst hspot
    have hcell : ∀ i, i < n * k → w.cell? ⟨b, off + i, none⟩ = some ((V (i / k)).getD (i % k) undef) := fun i hi => by
      have hik : i / k < n := Nat.div_lt_of_lt_mul (by rw [Nat.mul_comm]; exact hi)
      have hmod : i % k < k := Nat.mod_lt _ hpos
      have h1 := (World.cells?_some (hV (i / k) hik).1).2.2 (i % k) hmod
      rw [add_row, add_row] at h1
      rw [show off + i = off + i / k * k + i % k by have := Nat.div_add_mod i k; rw [Nat.mul_comm] at this; omega, h1]
      have hl := hlen (i / k) hik
      rw [List.getElem?_eq_getElem (by omega)]
      simp [List.getD, List.getElem?_eq_getElem (show i % k < (V (i / k)).length by omega)]
    refine ⟨b, off, rfl, ?_, hcell⟩
    exact World.block_lt_of_cell? w _ (hcell 0 hn)
end
end Go.Proofs.Ytodomchanaaonaa
