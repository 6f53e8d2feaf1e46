/- The document's Put of layer 11. -/
import Derived.Test.YtoimbgmajoajiaaRef11Place
namespace Go.Proofs.Ytoimbgmajoajiaa
open Go.ChangeShapes Go.WideShapes Go.ChangeAt Go.RowKit

set_option maxRecDepth 100000 in
set_option maxHeartbeats 1000000 in
theorem rPut11_any (s : WS) (hs : OkS s) (x : Int) (hx : -9223372036854775808 ≤ x ∧ x ≤ 9223372036854775807) (w : World) :
    Calls Try.prog 17 #[.agg (rowOf 10 (setV s)), .int .i64 x] w fun e w' => e = .returned (.tuple #[.agg (rowOf 10 (setV (putS s x))), .int .i64 (placeI s : Nat), .int .i64 (s.slot (placeI s))]) ∧ Below w.heap.size w w' := by
  have C1 := Lib.hid (fun W => rPlace11_any s hs W)
  have hi := placeI_lt s
  have C2 := Lib.hid (fun W => rSet11_any (placeS s) hs.place (placeI s) (by omega) x hx true W)
  have hsl := place_slot s
  unfold putS
  generalize placeI s = i at *
  rw [← hsl i]
  clear hsl
  generalize placeS s = ps at *
  have b0 : (0 : Int) ≤ (i : Int) := by omega
  have b1 : (i : Int) < 4 := by omega
  go_enter Try.func17, Try.ntmps17
  go_upto_region 1 with fail
  generalize hW : World.alloc _ _ = W
  obtain ⟨hB, r1, r2⟩ := two_blocks w 33 33 10 10 (setV s) (setV zeroS) W hW
  clear hW
  generalize hz : w.heap.size = a1 at *
  have HZ := Lib.hid hz; clear hz
  have hsz : a1 + 1 < W.heap.size := r2.lt
  have R2 := Lib.hid (fun w' hb => r2.keep (w' := w') hb)
  go_upto_region 2 with (first
    | (refine wpList_load_row rfl 33 _ rfl a1 rfl 33 (rowOf 10 (setV s)) (0, 0) _ r1 Try.underlying33 rfl (by kernel_rfl) ?_)
    | (go_at_call 30; refine (C1.out _).mono ?_; rintro e w2 ⟨rfl, hb⟩)
    | (refine wpList_store_row rfl 33 _ _ rfl w2.heap.size (rowOf 10 (setV ps)) rfl rfl 33 (rowOf 10 (setV zeroS)) (heap_alloc_new w2 _) (by kernel_rfl) rfl (setV_one _ _) ?_))
  rw [World.setRow_alloc_new]
  have p3 : Row (w2.alloc (.cells (rowOf 10 (setV ps)) 33)) w2.heap.size 33 10 (setV ps) := Row.new _ _ _ _ _ rfl
  have hs2 : a1 + 1 < w2.heap.size := Nat.lt_of_lt_of_le hsz hb.size
  have p2 := (R2.out _ hb).alloc (.cells (rowOf 10 (setV ps)) 33)
  have hb2 := (below_on hB (Nat.le_of_eq HZ.out.symm) hb).alloc (show a1 ≤ w2.heap.size by omega) (.cells (rowOf 10 (setV ps)) 33)
  generalize hg : w2.heap.size = g at *
  generalize World.alloc w2 _ = W3 at *
  have v0 := set_slot_at p3 i hi
  have P2 := Lib.hid (fun w' hb => p2.keep (w' := w') hb)
  clear r1 r2 R2 hB hb C1 p2 hg
  go_wp2_with (first
    | (refine wpList_load_row rfl 33 _ rfl g rfl 33 (rowOf 10 (setV ps)) (0, 0) _ p3 Try.underlying33 rfl (by kernel_rfl) ?_)
    | (go_at_call 12; refine (C2.out _).mono ?_; rintro e w6 ⟨rfl, hb6⟩)
    | (refine wpList_store_row rfl 33 _ _ rfl (a1 + 1) (rowOf 10 (setV (changeS ps i x true))) rfl rfl 33 (rowOf 10 (setV zeroS)) (P2.out _ hb6) (by kernel_rfl) rfl (setV_one _ _) ?_))
  exact bodyPost_ret (results_row2 (p := 4) (u := 5) (v := 6) (ty := 33) (by kernel_rfl) _ _ (a1 + 1) 33 (rowOf 10 (setV (changeS ps i x true))) (0, 0) _ rfl ((P2.out _ hb6).setRow_ _) Try.underlying33 rfl (by kernel_rfl)) rfl ⟨rfl, by
    rw [HZ.out]; exact below_setRow_ (below_on hb2 (Nat.le_of_eq HZ.out.symm) hb6) (by omega) _⟩
end Go.Proofs.Ytoimbgmajoajiaa
