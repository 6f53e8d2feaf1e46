/- burnbaglaw15's example. -/
import Derived.Test.YtodomchanaaonaaShareFacts
import Derived.Deep.WholeRow
namespace Go.Proofs.Ytodomchanaaonaa
open Go.ChangeShapes Go.WideShapes Go.ChangeAt Go.RowKit

def L2 : List Opr := [⟨0, zeroC, zeroA, 0, 0⟩, ⟨0, ⟨6, 1, 0, 0, 0, 0, 0⟩, zeroA, 0, 0⟩]
theorem okL2 : OkL L2 := fun i hi => by
  match i, hi with
  | 0, _ => constructor <;> first | (unfold I64; decide) | (constructor <;> first | (unfold I64; decide) | (unfold U64; decide))
  | 1, _ => constructor <;> first | (unfold I64; decide) | (constructor <;> first | (unfold I64; decide) | (unfold U64; decide))
theorem lies_lit2 (w : World) {cs : Array Value} {ds : List Value} (t : TypeId) (h : cs = ds.toArray) : LiesC (w.alloc (.cells cs t)) (some ⟨w.heap.size, 0, none⟩) ds := .inr ⟨w.heap.size, 0, rfl, by simp, fun j v hj => by
  rw [Nat.zero_add, (Cells.new w cs t).cell j, h]
  exact hj⟩
set_option maxRecDepth 100000 in
theorem lives15_any (w : World) : Calls Try.prog 6 #[] w fun e w' => e = .returned (.bool true) ∧ Below w.heap.size w w' := by
  have C1 := Lib.hid (sAll_any (some ⟨w.heap.size, 0, none⟩) 2 L2 (by decide) okL2 _ (lies_lit2 w 35 (cs := (flatF opF L2).toArray) rfl))
  have h0 : (shareUp L2 0 L2.length).length = 1 := by decide
  have h1 : (shareUp L2 1 L2.length).length = 0 := by decide
  have h6 : (shareUp L2 6 L2.length).length = 1 := by decide
  have HN := Lib.hid (And.intro h0 (And.intro h1 h6)); clear h0 h1 h6
  go_enter Try.func6, Try.ntmps6
  go_upto_region 2 with (first
    | (go_at_call 14; refine C1.out.mono ?_; rintro e w1 ⟨B, C, rfl, -, hb⟩; have HB := Lib.hid hb; clear hb)
    | (refine wpList_store_row rfl 44 _ _ rfl w1.heap.size (rowOf 16 fun i => .slice (B i) (shareUp L2 i L2.length).length (C i)) rfl rfl 44 (rowOf 16 fun _ => .slice none 0 0) (heap_alloc_new w1 _) (by kernel_rfl) rfl (rowOf_one fun _ => rfl) ?_; rw [World.setRow_alloc_new]))
  have hr := Row.new w1 _ 44 (fun i => .slice (B i) (shareUp L2 i L2.length).length (C i)) 16 rfl
  obtain ⟨W, hW⟩ : ∃ W, w1.alloc (.cells (rowOf 16 fun i => .slice (B i) (shareUp L2 i L2.length).length (C i)) 44) = W := ⟨_, rfl⟩
  have hbW : Below w1.heap.size w1 W := by rw [← hW]; exact (Below.refl _ _).alloc (Nat.le_refl _) _
  rw [hW] at hr ⊢
  have p0 : W.cell? ⟨w1.heap.size, 0, none⟩ = some (.slice (B 0) 1 (C 0)) := by rw [hr.cell (i := 0) (by omega), HN.out.1]
  have p1 : W.cell? ⟨w1.heap.size, 1, none⟩ = some (.slice (B 1) 0 (C 1)) := by rw [hr.cell (i := 1) (by omega), HN.out.2.1]
  have p6 : W.cell? ⟨w1.heap.size, 6, none⟩ = some (.slice (B 6) 1 (C 6)) := by rw [hr.cell (i := 6) (by omega), HN.out.2.2]
  have HBW := Lib.hid hbW
  clear hW hr hbW
  go_wp2_with fail
  go_ret
  have hs := HB.out.size
  exact ⟨rfl, ((Below.refl _ w).alloc (Nat.le_refl _) _).trans ((HB.out.trans (HBW.out.mono hs)).mono (by simp))⟩
end Go.Proofs.Ytodomchanaaonaa
