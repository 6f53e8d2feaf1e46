/- Package share: the four contracts. -/
import Derived.Test.YtodomchanaaonaaShareOfFn
import Derived.Test.YtodomchanaaonaaRef15Of
import Derived.Test.YtodomchanaaonaaShareUpToFn
import Derived.Test.YtodomchanaaonaaShareAllFn
namespace Go.Proofs.Ytodomchanaaonaa
open Go.ChangeShapes Go.WideShapes Go.ChangeAt Go.RowKit

def OkL (L : List Opr) : Prop := ∀ i, i < L.length → OkOpr (oprN L i)
theorem sOf_any (A : Option Addr) (c : Nat) (L : List Opr) (hL : L.length ≤ 1000000) (_ : OkL L) (lv pt : Int) (w : World) (ha : LiesC w A (flatF opF L)) :
    Calls Try.prog 10 #[.slice A L.length c, .int .i64 lv, .int .i64 pt] w fun e w' => ∃ v, e = .returned v ∧ LnIs w' v (keepUp (shareB lv pt) L L.length).length (flatF opF (keepUp (shareB lv pt) L L.length)) ∧ Far w.heap.size v ∧ Below w.heap.size w w' :=
  sOfFn_any A c L hL lv pt w ha
theorem sUpTo_any (A : Option Addr) (d : Nat) (L : List Opr) (hL : L.length ≤ 1000000) (_ : OkL L) (c : Nat → Int) (hc : Ok64 c) (l : Int) (w : World) (ha : LiesC w A (flatF opF L)) :
    Calls Try.prog 12 #[.slice A L.length d, .agg (rowOf 14 (ints c)), .int .i64 l] w fun e w' => ∃ v, e = .returned v ∧ LnIs w' v (keepUp (uptoB c l) L L.length).length (flatF opF (keepUp (uptoB c l) L L.length)) ∧ Far w.heap.size v ∧ Below w.heap.size w w' :=
  sUpToFn_any A d L hL c hc l w ha
theorem sAll_any (A : Option Addr) (c : Nat) (L : List Opr) (hL : L.length ≤ 1000000) (_ : OkL L) (w : World) (ha : LiesC w A (flatF opF L)) :
    Calls Try.prog 14 #[.slice A L.length c] w fun e w' => ∃ (B : Nat → Option Addr) (C : Nat → Nat), e = .returned (.agg (rowOf 16 fun i => .slice (B i) (shareUp L i L.length).length (C i))) ∧ (∀ i, i < 16 → LiesC w' (B i) (flatF opF (shareUp L i L.length))) ∧ Below w.heap.size w w' :=
  sAllFn_any A c L hL w ha
end Go.Proofs.Ytodomchanaaonaa
