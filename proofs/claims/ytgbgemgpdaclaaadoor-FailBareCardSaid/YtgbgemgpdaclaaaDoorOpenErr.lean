/- What an error is made by, as an argument: numbers, a text, texts. -/
import Derived.Test.YtgbgemgpdaclaaaDoorRow
import Derived.Test.YtgbgemgpdaclaaaDoorRef8Text
import Derived.Test.YtgbgemgpdaclaaaDoorOpen
import Derived.Deep.Strs
namespace Go.Proofs.YtgbgemgpdaclaaaDoor
open Go.ChangeShapes Go.WideShapes Go.ChangeAt Go.RowKit Go.Joins Go.Deep

theorem sB_of (s : ByteArray) : sB s.data.toList = s := by simp [sB]
structure OkS (e : ErrS) (n : Nat) : Prop where
  t0 : -9223372036854775808 ≤ e.t
  t1 : e.t ≤ 9223372036854775807
  l0 : -9223372036854775808 ≤ e.l
  l1 : e.l ≤ 9223372036854775807
  c0 : -9223372036854775808 ≤ e.c
  c1 : e.c ≤ 9223372036854775807
  what : e.what.length ≤ maxLen
  n40 : n ≤ maxLen
  notes : ∀ k, k < n → (e.notes k).length ≤ maxLen
theorem OkS.okE {e : ErrS} {n : Nat} (h : OkS e n) (h1 : e.what.length ≤ 200) (h2 : n ≤ 40) (h3 : ∀ k, k < n → (e.notes k).length ≤ 200) : OkE e n := ⟨h.t0, h.t1, h.l0, h.l1, h.c0, h.c1, h1, h2, h3⟩
section
variable {H : Type} {enc : TypeId × Value → H} {w : World} {base : Nat}
set_option maxRecDepth 100000 in
theorem open_s8 {r : Reach} {b0 : Nat} {v : Value} {d : DataW H} {ps : List MemPlace} (hval : Value.okWide Tryd.prog w r b0 25 v) (h : DataW.Trod enc Tryd.prog w base (fun _ => true) true 25 v d ps) :
    ∃ (A : Option Addr) (n c : Nat) (e : ErrS), v = .agg (rowOf 5 (errV (.slice A n c) e)) ∧ OkS e n ∧ RowIs w A n (fun i => .string (sB (e.notes i))) := by
  have ki : Tryd.prog.cellsOf 3 = 1 := by kernel_rfl
  have ks : Tryd.prog.cellsOf 9 = 1 := by kernel_rfl
  have kc : Tryd.prog.cellsOf 22 = 1 := by kernel_rfl
  have kn : Tryd.prog.cellsOf 23 = 1 := by kernel_rfl
  have k5 : Tryd.prog.cellsOf 25 = 5 := by kernel_rfl
  obtain ⟨cs, rfl, hsz⟩ := okWide_struct Tryd.underlying25 hval
  obtain ⟨fuel, hf⟩ := h
  obtain ⟨xs, n, _, hx, hl, hlen, hg⟩ := DataW.trod_struct Tryd.underlying25 hf
  have hcs : (Value.agg cs).cells.toList = cs.toList := rfl
  rw [k5, hcs] at hl
  rw [hcs] at hg
  obtain ⟨cs⟩ := cs
  match cs, hl with
  | [v0, v1, v2, v3, v4], _ =>
    match xs, hlen with
    | [y0, y1, y2, y3, y4], _ =>
      have g0 : DataW.trod enc Tryd.prog w base (fun _ => true) true n 3 [v0] = some y0 := by have := hg 0 _ rfl; simpa [ki] using this
      have g1 : DataW.trod enc Tryd.prog w base (fun _ => true) true n 3 [v1] = some y1 := by have := hg 1 _ rfl; simpa [ki] using this
      have g2 : DataW.trod enc Tryd.prog w base (fun _ => true) true n 9 [v2] = some y2 := by have := hg 2 _ rfl; simpa [ki, ks] using this
      have g3 : DataW.trod enc Tryd.prog w base (fun _ => true) true n 22 [v3] = some y3 := by have := hg 3 _ rfl; simpa [ki, ks, kc] using this
      have g4 : DataW.trod enc Tryd.prog w base (fun _ => true) true n 23 [v4] = some y4 := by have := hg 4 _ rfl; simpa [ki, ks, kc, kn] using this
      obtain ⟨x0, e0, b0⟩ := cell_i Tryd.underlying3 g0
      obtain ⟨x1, e1, b1⟩ := cell_i Tryd.underlying3 g1
      obtain ⟨x2, e2, _, b2⟩ := DataW.trod_string Tryd.underlying9 g2
      obtain ⟨x3, e3, b3⟩ := cell_i Tryd.underlying22 g3
      obtain rfl : v2 = .string x2 := by simpa using e2
      subst e0; subst e1; subst e3
      rcases open_strs Tryd.underlying23 Tryd.underlying9 ks g4 with ⟨e4, _⟩ | ⟨a, len, cap, m, Sx, e4, _, hlc, hcap, hm, _, hS⟩
      · obtain rfl : v4 = .slice none 0 0 := by simpa using e4
        refine ⟨none, 0, 0, ⟨x0, x1, x2.data.toList, x3, fun _ => []⟩, ?_, ⟨b0.1, b0.2, b1.1, b1.2, b3.1, b3.2, by simpa using b2, by simp [maxLen], fun k hk => by omega⟩, RowIs.none_ _ _ _⟩
        show Value.agg #[.int .i64 x0, .int .i64 x1, .string x2, .int .i64 x3, .slice none 0 0] = Value.agg #[.int .i64 x0, .int .i64 x1, .string (sB x2.data.toList), .int .i64 x3, .slice none 0 0]
        rw [sB_of]
      · obtain rfl : v4 = .slice (some a) len cap := by simpa using e4
        have hlm : len ≤ m := by rw [hm]; split <;> omega
        refine ⟨some a, len, cap, ⟨x0, x1, x2.data.toList, x3, fun i => (Sx i).data.toList⟩, ?_, ⟨b0.1, b0.2, b1.1, b1.2, b3.1, b3.2, by simpa using b2, by omega, fun k hk => by simpa using (hS k (by omega)).2⟩, fun hn => ?_⟩
        · show Value.agg #[.int .i64 x0, .int .i64 x1, .string x2, .int .i64 x3, .slice (some a) len cap] = Value.agg #[.int .i64 x0, .int .i64 x1, .string (sB x2.data.toList), .int .i64 x3, .slice (some a) len cap]
          rw [sB_of]
        · obtain ⟨b, off, spot⟩ := a
          have h0 := (hS 0 (by omega)).1
          have hspot : spot = none := by simpa [Addr.add] using World.cell?_spot h0
          subst hspot
          have hc : ∀ i, i < len → w.cell? ⟨b, off + i, none⟩ = some (.string (sB (Sx i).data.toList)) := fun i hi => by
            have h1 := (hS i (by omega)).1
            rw [add_plain] at h1
            rw [sB_of]
            exact h1
          exact ⟨b, off, rfl, World.block_lt_of_cell? w _ (hc 0 hn), hc⟩
end
end Go.Proofs.YtgbgemgpdaclaaaDoor
