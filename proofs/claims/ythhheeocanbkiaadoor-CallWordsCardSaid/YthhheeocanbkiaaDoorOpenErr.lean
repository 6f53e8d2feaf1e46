/- What an error is made by, as an argument: numbers, a text, texts. -/
import Derived.Test.YthhheeocanbkiaaDoorRow
import Derived.Test.YthhheeocanbkiaaDoorRef8Text
import Derived.Test.YthhheeocanbkiaaDoorOpen
import Derived.Deep.Strs
namespace Go.Proofs.YthhheeocanbkiaaDoor
open Go.ChangeShapes Go.WideShapes Go.ChangeAt Go.RowKit Go.Joins Go.Deep

theorem sB_of (s : ByteArray) : sB s.data.toList = s := by simp [sB]
structure OkS (e : ErrS) (n : Nat) : Prop where
  t0 : -9223372036854775808 ≤ e.t
  t1 : e.t ≤ 9223372036854775807
  l0 : -9223372036854775808 ≤ e.l
  l1 : e.l ≤ 9223372036854775807
  c0 : -9223372036854775808 ≤ e.c
  c1 : e.c ≤ 9223372036854775807
  what : e.what.length ≤ maxLen
  n40 : n ≤ maxLen
  notes : ∀ k, k < n → (e.notes k).length ≤ maxLen
theorem OkS.okE {e : ErrS} {n : Nat} (h : OkS e n) (h1 : e.what.length ≤ 200) (h2 : n ≤ 40) (h3 : ∀ k, k < n → (e.notes k).length ≤ 200) : OkE e n := ⟨h.t0, h.t1, h.l0, h.l1, h.c0, h.c1, h1, h2, h3⟩
section
variable {H : Type} {enc : TypeId × Value → H} {w : World} {base : Nat}
end
end Go.Proofs.YthhheeocanbkiaaDoor
