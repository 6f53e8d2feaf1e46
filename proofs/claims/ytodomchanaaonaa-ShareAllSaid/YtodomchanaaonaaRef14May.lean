/- burnbagref14.May. -/
import Derived.Test.YtodomchanaaonaaRef14
namespace Go.Proofs.Ytodomchanaaonaa
open Go.ChangeShapes Go.WideShapes Go.ChangeAt Go.RowKit

/-- Behind k events that may be: which threads are within a call. -/
structure MayR (w : World) (L : List Ev) (g k : Nat) (wr : World) : Prop where
  bel : Below w.heap.size w wr
  own : Own wr g 8 (fun t => .bool (wnAt L k t))
  ok : ∀ j, j < k → okAt L j = true
theorem MayR.next {w wr W : World} {L : List Ev} {g k t : Nat} {bk : Bool} (h : MayR w L g k wr) (hg : w.heap.size ≤ g) (hb : Below wr.heap.size wr W) (ho : okAt L k = true) (hw : ∀ j, wnAt L (k + 1) j = if j = t then bk else wnAt L k j) :
    MayR w L g (k + 1) (W.setCell ⟨g, t, none⟩ (.bool bk)) := by
  refine ⟨(h.bel.trans (hb.mono h.bel.size)).setCell hg _, ?_, fun j hj => ?_⟩
  · refine ((h.own.below hb h.own.lt).set_ t (.bool bk)).congr fun i _ => ?_
    rw [hw i]
    by_cases e : i = t
    · rw [if_pos e, if_pos e]
    · rw [if_neg e, if_neg e]
  · rcases Nat.lt_or_ge j k with h1 | h1
    · exact h.ok j h1
    · obtain rfl : j = k := by omega
      exact ho

end Go.Proofs.Ytodomchanaaonaa
