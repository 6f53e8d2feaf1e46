/- Whether a call may be answered so: the document's answer of layer 9. -/
import Derived.Test.YthhheeocanbkiaaDoorCallDo
namespace Go.Proofs.YthhheeocanbkiaaDoor
open Go.ChangeShapes Go.WideShapes Go.ChangeAt Go.RowKit

/-- What is told is a slice of these codes. -/
def Refs (w : World) (op : Int) (e : Ending) (w' : World) : Prop := ∃ A cap, e = .returned (.slice A (refs op).length cap) ∧ RowIs w' A (refs op).length (fun i => .int .i64 ((refs op).getD i 0)) ∧ Below w.heap.size w w'
theorem row_lit (w : World) (cs : Array Value) (t : TypeId) (L : List Int) (h : cs = (L.map (Value.int .i64)).toArray) : RowIs (w.alloc (.cells cs t)) (some ⟨w.heap.size, 0, none⟩) L.length (fun i => .int .i64 (L.getD i 0)) := fun _ => by
  refine ⟨w.heap.size, 0, rfl, by simp, fun i hi => ?_⟩
  rw [h, Nat.zero_add]
  simp [hi, List.getD]
theorem refs_0 (w : World) : Calls Tryd.prog 25 #[.int .i64 0] w (Refs w 0) := by
  go_enter Tryd.func25, Tryd.ntmps25
  go_wp2
  go_ret
  exact ⟨_, _, rfl, row_lit w _ _ (refs 0) rfl, (Below.refl _ _).alloc (Nat.le_refl _) _⟩
theorem refs_1 (w : World) : Calls Tryd.prog 25 #[.int .i64 1] w (Refs w 1) := by
  go_enter Tryd.func25, Tryd.ntmps25
  go_wp2
  go_ret
  exact ⟨_, _, rfl, row_lit w _ _ (refs 1) rfl, (Below.refl _ _).alloc (Nat.le_refl _) _⟩
theorem refs_2 (w : World) : Calls Tryd.prog 25 #[.int .i64 2] w (Refs w 2) := by
  go_enter Tryd.func25, Tryd.ntmps25
  go_wp2
  go_ret
  exact ⟨_, _, rfl, row_lit w _ _ (refs 2) rfl, (Below.refl _ _).alloc (Nat.le_refl _) _⟩
theorem refs_3 (w : World) : Calls Tryd.prog 25 #[.int .i64 3] w (Refs w 3) := by
  go_enter Tryd.func25, Tryd.ntmps25
  go_wp2
  go_ret
  exact ⟨_, _, rfl, row_lit w _ _ (refs 3) rfl, (Below.refl _ _).alloc (Nat.le_refl _) _⟩
theorem refs_4 (w : World) : Calls Tryd.prog 25 #[.int .i64 4] w (Refs w 4) := by
  go_enter Tryd.func25, Tryd.ntmps25
  go_wp2
  go_ret
  exact ⟨_, _, rfl, row_lit w _ _ (refs 4) rfl, (Below.refl _ _).alloc (Nat.le_refl _) _⟩
theorem refs_5 (w : World) : Calls Tryd.prog 25 #[.int .i64 5] w (Refs w 5) := by
  go_enter Tryd.func25, Tryd.ntmps25
  go_wp2
  go_ret
  exact ⟨_, _, rfl, row_lit w _ _ (refs 5) rfl, (Below.refl _ _).alloc (Nat.le_refl _) _⟩
theorem refs_6 (w : World) : Calls Tryd.prog 25 #[.int .i64 6] w (Refs w 6) := by
  go_enter Tryd.func25, Tryd.ntmps25
  go_wp2
  go_ret
  exact ⟨_, _, rfl, row_lit w _ _ (refs 6) rfl, (Below.refl _ _).alloc (Nat.le_refl _) _⟩
theorem refs_7 (w : World) : Calls Tryd.prog 25 #[.int .i64 7] w (Refs w 7) := by
  go_enter Tryd.func25, Tryd.ntmps25
  go_wp2
  go_ret
  exact ⟨_, _, rfl, row_lit w _ _ (refs 7) rfl, (Below.refl _ _).alloc (Nat.le_refl _) _⟩
theorem refs_8 (w : World) : Calls Tryd.prog 25 #[.int .i64 8] w (Refs w 8) := by
  go_enter Tryd.func25, Tryd.ntmps25
  go_wp2
  go_ret
  exact ⟨_, _, rfl, row_lit w _ _ (refs 8) rfl, (Below.refl _ _).alloc (Nat.le_refl _) _⟩
theorem refs_9 (w : World) : Calls Tryd.prog 25 #[.int .i64 9] w (Refs w 9) := by
  go_enter Tryd.func25, Tryd.ntmps25
  go_wp2
  go_ret
  exact ⟨_, _, rfl, row_lit w _ _ (refs 9) rfl, (Below.refl _ _).alloc (Nat.le_refl _) _⟩
theorem refs_10 (w : World) : Calls Tryd.prog 25 #[.int .i64 10] w (Refs w 10) := by
  go_enter Tryd.func25, Tryd.ntmps25
  go_wp2
  go_ret
  exact ⟨_, _, rfl, row_lit w _ _ (refs 10) rfl, (Below.refl _ _).alloc (Nat.le_refl _) _⟩
theorem refs_11 (w : World) : Calls Tryd.prog 25 #[.int .i64 11] w (Refs w 11) := by
  go_enter Tryd.func25, Tryd.ntmps25
  go_wp2
  go_ret
  exact ⟨_, _, rfl, row_lit w _ _ (refs 11) rfl, (Below.refl _ _).alloc (Nat.le_refl _) _⟩
theorem refs_12 (w : World) : Calls Tryd.prog 25 #[.int .i64 12] w (Refs w 12) := by
  go_enter Tryd.func25, Tryd.ntmps25
  go_wp2
  go_ret
  exact ⟨none, 0, rfl, RowIs.none_ _ _ _, Below.refl _ _⟩
theorem refs_any (op : Int) (h0 : 0 ≤ op) (h1 : op ≤ 12) (w : World) : Calls Tryd.prog 25 #[.int .i64 op] w (Refs w op) := by
  rcases ops13 h0 h1 with rfl | rfl | rfl | rfl | rfl | rfl | rfl | rfl | rfl | rfl | rfl | rfl | rfl
  · exact refs_0 w
  · exact refs_1 w
  · exact refs_2 w
  · exact refs_3 w
  · exact refs_4 w
  · exact refs_5 w
  · exact refs_6 w
  · exact refs_7 w
  · exact refs_8 w
  · exact refs_9 w
  · exact refs_10 w
  · exact refs_11 w
  · exact refs_12 w
theorem refs_len (op : Int) (h0 : 0 ≤ op) (h1 : op ≤ 12) : (refs op).length ≤ 2 := by
  rcases ops13 h0 h1 with rfl | rfl | rfl | rfl | rfl | rfl | rfl | rfl | rfl | rfl | rfl | rfl | rfl
  all_goals decide
end Go.Proofs.YthhheeocanbkiaaDoor
