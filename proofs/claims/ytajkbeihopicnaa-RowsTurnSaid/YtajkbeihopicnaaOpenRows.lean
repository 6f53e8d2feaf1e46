/- Rows as arguments: one, and a slice of them. -/
import Derived.Test.YtajkbeihopicnaaRowL
import Derived.Test.YtajkbeihopicnaaOpen
import Derived.Test.YtajkbeihopicnaaOpenRecs
namespace Go.Proofs.Ytajkbeihopicnaa
open Go.ChangeShapes Go.WideShapes Go.ChangeAt Go.RowKit Go.Joins Go.Deep
section
variable {H : Type} {enc : TypeId × Value → H} {w : World} {base : Nat} {spare : Nat → Bool} {held : Bool}
theorem trod_row {fuel : Nat} {cs : List Value} {y : DataW H × List MemPlace} (h : DataW.trod enc Try.prog w base spare held fuel 27 cs = some y) : ∃ x : Rw, cs = flat [x] := by
  have kl : Try.prog.cellsOf 2 = 1 := by kernel_rfl
  have ku : Try.prog.cellsOf 23 = 1 := by kernel_rfl
  have kp : Try.prog.cellsOf 25 = 2 := by kernel_rfl
  have kc : Try.prog.cellsOf 27 = 3 := by kernel_rfl
  obtain ⟨xs, n, _, hx, hl, hlen, hg⟩ := DataW.trod_struct Try.underlying27 h
  rw [kc] at hl
  match cs, hl with
  | [v0, v1, v2], _ =>
    match xs, hlen with
    | [y0, y1], _ =>
      have g0 : DataW.trod enc Try.prog w base spare held n 2 [v0] = some y0 := by have := hg 0 _ rfl; simpa [kl] using this
      have g1 : DataW.trod enc Try.prog w base spare held n 25 [v1, v2] = some y1 := by have := hg 1 _ rfl; simpa [kl, kp] using this
      obtain ⟨zs, m, _, hz, hl2, hlen2, hg2⟩ := DataW.trod_struct Try.underlying25 g1
      match zs, hlen2 with
      | [z0, z1], _ =>
        have g2 : DataW.trod enc Try.prog w base spare held m 23 [v1] = some z0 := by have := hg2 0 _ rfl; simpa [ku] using this
        have g3 : DataW.trod enc Try.prog w base spare held m 23 [v2] = some z1 := by have := hg2 1 _ rfl; simpa [ku] using this
        obtain ⟨k, rfl, _⟩ := cell_i Try.underlying2 g0
        obtain ⟨a, rfl, _⟩ := cell_u Try.underlying23 g2
        obtain ⟨b, rfl, _⟩ := cell_u Try.underlying23 g3
        exact ⟨⟨k, a, b⟩, rfl⟩
theorem open_row {r : Reach} {b0 : Nat} {v : Value} {d : DataW H} {ps : List MemPlace} (hval : Value.okWide Try.prog w r b0 27 v) (h : DataW.Trod enc Try.prog w base spare held 27 v d ps) :
    ∃ x : Rw, v = .agg #[.int .i64 x.k, .int .u64 (x.a : Nat), .int .u64 (x.b : Nat)] := by
  obtain ⟨cs, rfl, _⟩ := okWide_struct Try.underlying27 hval
  obtain ⟨fuel, hf⟩ := h
  obtain ⟨x, e⟩ := trod_row hf
  refine ⟨x, ?_⟩
  congr 1
  apply Array.ext'
  exact e
theorem open_rows {r : Reach} {b0 : Nat} {v : Value} {d : DataW H} {ps : List MemPlace} (hval : Value.okWide Try.prog w r b0 22 v) (h : DataW.Trod enc Try.prog w base (fun _ => true) true 22 v d ps) :
    ∃ (A : Option Addr) (c : Nat) (L : List Rw), v = .slice A L.length c ∧ L.length ≤ 9223372036854775807 ∧ Lies w A L := by
  obtain ⟨A, n, c, V, rfl, hn, hr, hV⟩ := open_recs Try.underlying22 (k := 3) (by kernel_rfl) (by omega) hval h
  obtain ⟨O, hO⟩ := choose_below (n := n) (p := fun i x => V i = flat [x]) (fun i hi => by
    obtain ⟨hl, fuel, y, hy⟩ := hV i hi
    exact trod_row hy)
  have hlen : ((List.range n).map O).length = n := by simp
  have hn' : ∀ i, i < n → nth ((List.range n).map O) i = O i := fun i hi => by simp [nth, List.getD, hi]
  refine ⟨A, c, (List.range n).map O, by rw [hlen], by omega, ?_⟩
  by_cases h0 : 0 < n
  · obtain ⟨b, off, rfl, hb, hx⟩ := hr (by omega)
    refine .inr ⟨b, off, rfl, hb, fun j u hj => ?_⟩
    have hjl : j < n * 3 := by
      rcases Nat.lt_or_ge j (n * 3) with h | h
      · exact h
      · rw [List.getElem?_eq_none (by rw [flat_length, hlen]; exact h)] at hj; cases hj
    have h3 : j % 3 < 3 := Nat.mod_lt _ (by omega)
    have hq : j / 3 < n := by omega
    have he : j = j / 3 * 3 + j % 3 := by omega
    rw [hx j hjl, ← hj]
    show some ((V (j / 3)).getD (j % 3) undef) = _
    rw [hO _ hq]
    obtain ⟨f0, f1, f2⟩ := flat_get ((List.range n).map O) (j / 3) (by rw [hlen]; exact hq)
    rw [hn' _ hq] at f0 f1 f2
    generalize j % 3 = r at *
    generalize j / 3 = q at *
    subst he
    match r, h3 with
    | 0, _ => exact f0.symm
    | 1, _ => exact f1.symm
    | 2, _ => exact f2.symm
  · obtain rfl : n = 0 := by omega
    exact .inl rfl
end
end Go.Proofs.Ytajkbeihopicnaa
