/- Lists of threads, as package conf and the document's answer give them. -/
import Derived.Test.YthhheeocanbkiaaDoorConfMay
import Derived.Test.YthhheeocanbkiaaDoorRef4
import Derived.OwnWalk
namespace Go.Proofs.YthhheeocanbkiaaDoor
open Go.ChangeShapes Go.WideShapes Go.ChangeAt Go.RowKit

/-- What is told is a slice of these numbers; nothing that was there has turned. -/
def GivesInts (w : World) (l : List Int) (e : Ending) (w' : World) : Prop := ∃ A cap, e = .returned (.slice A l.length cap) ∧ RowIs w' A l.length (fun i => .int .i64 (l.getD i 0)) ∧ Below w.heap.size w w'
theorem own_row {w : World} {base : Nat} {e : TypeId} {v : Value} {l : List Int} (h : w.ownsRow base e 1 v l.length (l.map (Value.int .i64))) : ∃ A cap, v = .slice A l.length cap ∧ RowIs w A l.length (fun i => .int .i64 (l.getD i 0)) := by
  rcases h.2 with ⟨rfl, h0⟩ | ⟨g, cap, cur, rfl, hb, hh, _⟩
  · rw [h0]
    exact ⟨none, 0, rfl, RowIs.none_ _ _ _⟩
  · refine ⟨_, cap, rfl, fun hn => ⟨g, 0, rfl, ?_, fun i hi => ?_⟩⟩
    · rcases Nat.lt_or_ge g w.heap.size with hlt | hge
      · exact hlt
      · rw [Array.getElem?_eq_none hge] at hh; cases hh
    · rw [Nat.zero_add, h.cellAt i (by omega)]
      simp [List.getD, hi]

/-- The first k threads whose number in the array is from lo to hi. -/
def thr (c : Nat → Int) (lo hi : Int) (k : Nat) : List Int := ((List.range k).filter fun t => withinB (c (2 + t)) lo hi).map Int.ofNat
theorem thr_succ (c : Nat → Int) (lo hi : Int) (k : Nat) : thr c lo hi (k + 1) = thr c lo hi k ++ if withinB (c (2 + k)) lo hi = true then [(k : Int)] else [] := by
  unfold thr
  rw [List.range_succ, List.filter_append, List.map_append]
  congr 1
  by_cases h : withinB (c (2 + k)) lo hi = true
  · rw [if_pos h]; simp [h]
  · rw [if_neg h]; simp [h]
theorem thr_len (c : Nat → Int) (lo hi : Int) (k : Nat) : (thr c lo hi k).length ≤ k := by
  unfold thr
  rw [List.length_map]
  exact Nat.le_trans (List.length_filter_le ..) (by simp)
def thrs (c : Nat → Int) (lo hi : Int) : List Int := if mayB c = true then thr c lo hi (c 1).toNat else []

theorem int_info : (Tryd.prog.info? 3).map (fun i => (i.zero, i.size, i.bytes)) = some (some (.int .i64 0), 1, 8) := by kernel_rfl

end Go.Proofs.YthhheeocanbkiaaDoor
