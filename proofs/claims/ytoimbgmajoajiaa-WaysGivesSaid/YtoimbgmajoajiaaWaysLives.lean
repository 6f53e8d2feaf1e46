/- The chapter's example of layer 11. -/
import Derived.Test.YtoimbgmajoajiaaWaysIn
import Derived.Test.YtoimbgmajoajiaaWaysEq
namespace Go.Proofs.Ytoimbgmajoajiaa
open Go.ChangeShapes Go.WideShapes Go.ChangeAt Go.RowKit

theorem lives_word : wordN (putS zeroS 7) = 274877907207 := by decide +kernel
set_option maxRecDepth 100000 in
set_option maxHeartbeats 1000000 in
theorem lives11_any (w : World) : Calls Try.prog 11 #[] w fun e w' => e = .returned (.bool true) ∧ Below w.heap.size w w' := by
  have c1 := fun W => yPut_any zeroS okZero 7 (by omega) W
  rw [show placeI zeroS = 0 from rfl, show zeroS.slot 0 = 0 from rfl, ← fold10 zeroS] at c1
  have C1 : Hid (∀ W, Calls Try.prog 16 #[.agg #[.int .i64 0, .bool false, .int .i64 0, .bool false, .int .i64 0, .bool false, .int .i64 0, .bool false, .int .i64 0, .int .u64 0], .int .i64 7] W fun e w' => e = .returned (.tuple #[.agg (rowOf 10 (setV (putS zeroS 7))), .int .i64 0, .int .i64 0]) ∧ Below W.heap.size W w') := Lib.hid c1
  clear c1
  have c2 := fun W => yWord_any (putS zeroS 7) (okZero.putIn (by omega)) W
  rw [lives_word] at c2
  have C2 := Lib.hid c2
  clear c2
  generalize putS zeroS 7 = X at *
  have C2 := Lib.hid (by have h := C2.out; rw [← fold10 X] at h; exact h)
  go_enter Try.func11, Try.ntmps11
  go_upto_region 2 with (first
    | (go_at_call 16; refine (C1.out _).mono ?_; rintro e w2 ⟨rfl, hb⟩)
    | (refine wpList_store_row rfl 27 _ _ rfl w2.heap.size (rowOf 10 (setV X)) rfl rfl 27 (rowOf 10 (setV zeroS)) (heap_alloc_new w2 _) (by kernel_rfl) rfl (setV_one _ _) ?_))
  rw [World.setRow_alloc_new]
  have p3 : Row (w2.alloc (.cells (rowOf 10 (setV X)) 27)) w2.heap.size 27 10 (setV X) := Row.new _ _ _ _ _ rfl
  have hb2 := hb.alloc hb.size (.cells (rowOf 10 (setV X)) 27)
  have hs := hb.size
  clear hb
  generalize hg : w2.heap.size = g at *
  generalize World.alloc w2 _ = W3 at *
  clear hg
  obtain ⟨u0, u1, u2, u3, u4, u5, u6, u7, u8, u9⟩ := set_cells p3
  go_wp2_with (go_at_call 6; refine (C2.out _).mono ?_; rintro e w4 ⟨rfl, hb4⟩)
  go_ret
  exact ⟨rfl, below_on hb2 (Nat.le_refl _) hb4⟩
end Go.Proofs.Ytoimbgmajoajiaa
