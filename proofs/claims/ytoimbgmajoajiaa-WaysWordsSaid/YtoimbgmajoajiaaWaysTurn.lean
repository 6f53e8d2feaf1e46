/- change, Swap, Clear and Touch of package ways. -/
import Derived.Test.YtoimbgmajoajiaaWaysRead
import Derived.Deep.RegionWith
namespace Go.Proofs.Ytoimbgmajoajiaa
open Go.ChangeShapes Go.WideShapes Go.ChangeAt Go.RowKit

def WS.more (s : WS) : WS := { s with turns := (s.turns + 1) % 18446744073709551616 }
/-- A way becomes another one, and that is counted, if there is such a way. -/
def changeS (s : WS) (i : Int) (x : Int) (b : Bool) : WS := if 0 ≤ i ∧ i < 4 then (s.put i.toNat x b).more else s
theorem changeS_yes (s : WS) (k : Nat) (hk : k < 4) (x : Int) (b : Bool) : changeS s k x b = (s.put k x b).more := by
  unfold changeS; rw [if_pos ⟨by omega, by omega⟩, Int.toNat_natCast]
theorem changeS_no (s : WS) (i : Int) (h : ¬ (0 ≤ i ∧ i < 4)) (x : Int) (b : Bool) : changeS s i x b = s := by
  unfold changeS; rw [if_neg h]
theorem OkS.put {s : WS} (h : OkS s) (k : Nat) {x : Int} (hx : -9223372036854775808 ≤ x ∧ x ≤ 9223372036854775807) (b : Bool) : OkS (s.put k x b) :=
  ⟨fun i => by show _ ≤ (if i = k then x else s.slot i) ∧ (if i = k then x else s.slot i) ≤ _; split; exact hx; exact h.slot i, h.hand, h.turns⟩
theorem OkS.more {s : WS} (h : OkS s) : OkS s.more := ⟨h.slot, h.hand, Nat.mod_lt _ (by omega)⟩
theorem OkS.change {s : WS} (h : OkS s) (i : Int) {x : Int} (hx : -9223372036854775808 ≤ x ∧ x ≤ 9223372036854775807) (b : Bool) : OkS (changeS s i x b) := by
  unfold changeS; split
  · exact (h.put _ hx b).more
  · exact h
section
variable {w : World} {g : Nat} {t : TypeId} {s : WS}
theorem row_more (h : Row w g t 10 (setV s)) {n : Nat} (hn : n = (s.turns + 1) % 18446744073709551616) : Row (w.setCell ⟨g, 9, none⟩ (.int .u64 (n : Nat))) g t 10 (setV s.more) :=
  (h.set_ 9 _).congr fun i hi => by
    subst hn
    by_cases h1 : i = 9
    · subst h1; rw [if_pos rfl]; rfl
    · rw [if_neg h1]; unfold setV WS.more
      by_cases h2 : i < 8
      · rw [if_pos h2, if_pos h2]
      · rw [if_neg h2, if_neg h2, if_pos (show i = 8 by omega), if_pos (show i = 8 by omega)]
end

set_option maxRecDepth 100000 in
set_option maxHeartbeats 1000000 in
theorem yChange_any (s : WS) (hs : OkS s) (i : Int) (hi : -9223372036854775808 ≤ i ∧ i ≤ 9223372036854775807) (x : Int) (_hx : -9223372036854775808 ≤ x ∧ x ≤ 9223372036854775807) (b : Bool) (w : World) :
    Calls Try.prog 26 #[.agg (rowOf 10 (setV s)), .int .i64 i, .agg #[.int .i64 x, .bool b]] w fun e w' => e = .returned (.agg (rowOf 10 (setV (changeS s i x b)))) ∧ Below w.heap.size w w' := by
  have ht := hs.turns
  by_cases h : 0 ≤ i ∧ i < 4
  · obtain ⟨k, rfl⟩ := Int.eq_ofNat_of_zero_le h.1
    have hk : k < 4 := by omega
    have c := Lib.hid (fun W => yIs_any k W)
    rw [isB_yes h] at c
    rw [changeS_yes s k hk]
    have hn : Hid (IntKind.u64.wrap ((s.turns : Int) + 1) = (((s.turns + 1) % 18446744073709551616 : Nat) : Int)) := Lib.hid (by rw [IntKind.wrap_u64]; omega)
    have HN : Hid (∃ n, n = (s.turns + 1) % 18446744073709551616) := Lib.hid ⟨_, rfl⟩
    have q0 : (0 : Int) ≤ (k : Int) := by omega
    have q1 : (k : Int) < 4 := by omega
    clear h hi
    go_enter Try.func26, Try.ntmps26
    go_upto_region 1 with fail
    generalize hW : World.alloc _ _ = W
    obtain ⟨hB, r1, r2, r3⟩ := three_blocks w 27 23 27 10 2 10 (setV s) (fun i => if i = 0 then .int .i64 x else .bool b) (setV zeroS) W hW
    clear hW
    generalize hz : w.heap.size = a1 at *
    have HZ := Lib.hid hz; clear hz
    have v0 : W.cell? ⟨a1 + 1, 0, none⟩ = some (.int .i64 x) := r2.cell (i := 0) (by omega)
    have v1 : W.cell? ⟨a1 + 1, 1, none⟩ = some (.bool b) := r2.cell (i := 1) (by omega)
    have v2 := set_slot_at r1 k hk
    have v3 := set_tch_at r1 k hk
    have f2 := r1.frozen (k * 2)
    have f3 := r1.frozen (k * 2 + 1)
    have R1 := Lib.hid (row_way r1 k hk x b)
    have R3 := Lib.hid ((r3.far (p := ⟨a1, k * 2, none⟩) (show a1 + 1 + 1 ≠ a1 by omega) (.int .i64 x)).far (p := ⟨a1, k * 2 + 1, none⟩) (show a1 + 1 + 1 ≠ a1 by omega) (.bool b))
    have HB := Lib.hid ((hB.setCell (p := ⟨a1, k * 2, none⟩) (show a1 ≤ a1 from Nat.le_refl _) (.int .i64 x)).setCell (p := ⟨a1, k * 2 + 1, none⟩) (show a1 ≤ a1 from Nat.le_refl _) (.bool b))
    clear r1 r2 r3 hB
    go_upto_region 4 with (go_at_call 25; refine (c.out _).mono ?_; rintro e w' ⟨rfl, rfl⟩)
    generalize World.setCell _ _ _ = W1 at *
    have r1 := R1.out
    have r3 := R3.out
    have u9 : W1.cell? ⟨a1, 9, none⟩ = some (.int .u64 (s.turns : Nat)) := r1.cell (i := 9) (by omega)
    have f9 := r1.frozen 9
    generalize hgn : (s.turns + 1) % 18446744073709551616 = n at *
    have R4 := row_more r1 (n := n) hgn.symm
    have R5 := r3.far (p := ⟨a1, 9, none⟩) (show a1 + 1 + 1 ≠ a1 by omega) (.int .u64 (n : Nat))
    have HB2 := Lib.hid (HB.out.setCell (p := ⟨a1, 9, none⟩) (show a1 ≤ a1 from Nat.le_refl _) (.int .u64 (n : Nat)))
    have hn1 := hn.out
    clear v0 v1 v2 v3 f2 f3 r1 r3 R1 R3 HB hn HN hgn
    go_wp2_with (first
      | (refine wpList_load_row rfl 27 _ rfl a1 rfl 27 (rowOf 10 (setV (s.put k x b).more)) (0, 0) _ R4 Try.underlying27 rfl (by kernel_rfl) ?_)
      | (refine wpList_store_row rfl 27 _ _ rfl (a1 + 1 + 1) (rowOf 10 (setV (s.put k x b).more)) rfl rfl 27 (rowOf 10 (setV zeroS)) R5 (by kernel_rfl) rfl (setV_one _ _) ?_))
    exact bodyPost_ret (results_cell_row (p := 6) (ty := 27) (by kernel_rfl) _ _ (a1 + 1 + 1) 27 (rowOf 10 (setV (s.put k x b).more)) (0, 0) _ rfl (R5.setRow_ _) Try.underlying27 rfl (by kernel_rfl)) rfl ⟨rfl, by rw [HZ.out]; exact below_setRow_ HB2.out (by omega) _⟩
  · have c := Lib.hid (fun W => yIs_any i W)
    rw [isB_no h] at c
    rw [changeS_no s i h]
    clear h
    go_enter Try.func26, Try.ntmps26
    go_upto_region 1 with fail
    generalize hW : World.alloc _ _ = W
    obtain ⟨hB, r1, r2, r3⟩ := three_blocks w 27 23 27 10 2 10 (setV s) (fun i => if i = 0 then .int .i64 x else .bool b) (setV zeroS) W hW
    clear hW
    generalize hz : w.heap.size = a1 at *
    have HZ := Lib.hid hz; clear hz
    go_wp2_with (first
      | (go_at_call 25; refine (c.out _).mono ?_; rintro e w' ⟨rfl, rfl⟩)
      | (refine wpList_load_row rfl 27 _ rfl a1 rfl 27 (rowOf 10 (setV s)) (0, 0) _ r1 Try.underlying27 rfl (by kernel_rfl) ?_)
      | (refine wpList_store_row rfl 27 _ _ rfl (a1 + 1 + 1) (rowOf 10 (setV s)) rfl rfl 27 (rowOf 10 (setV zeroS)) r3 (by kernel_rfl) rfl (setV_one _ _) ?_))
    exact bodyPost_ret (results_cell_row (p := 6) (ty := 27) (by kernel_rfl) _ _ (a1 + 1 + 1) 27 (rowOf 10 (setV s)) (0, 0) _ rfl (r3.setRow_ _) Try.underlying27 rfl (by kernel_rfl)) rfl ⟨rfl, by rw [HZ.out]; exact below_setRow_ hB (by omega) _⟩
set_option maxRecDepth 100000 in
theorem ySwap_any (s : WS) (hs : OkS s) (i : Int) (hi : -9223372036854775808 ≤ i ∧ i ≤ 9223372036854775807) (x : Int) (hx : -9223372036854775808 ≤ x ∧ x ≤ 9223372036854775807) (w : World) :
    Calls Try.prog 14 #[.agg (rowOf 10 (setV s)), .int .i64 i, .int .i64 x] w fun e w' => e = .returned (.agg (rowOf 10 (setV (changeS s i x true)))) ∧ Below w.heap.size w w' := by
  have c := Lib.hid (fun W => yChange_any s hs i hi x hx true W)
  go_enter Try.func14, Try.ntmps14
  go_upto_region 1 with fail
  generalize hW : World.alloc _ _ = W
  obtain ⟨hB, r1, r2⟩ := two_blocks w 27 27 10 10 (setV s) (setV zeroS) W hW
  clear hW
  generalize hz : w.heap.size = a1 at *
  have HZ := Lib.hid hz; clear hz
  have hsz : a1 + 1 < W.heap.size := r2.lt
  have R2 := Lib.hid (fun w' hb => r2.keep (w' := w') hb)
  go_wp2_with (first
    | (refine wpList_load_row rfl 27 _ rfl a1 rfl 27 (rowOf 10 (setV s)) (0, 0) _ r1 Try.underlying27 rfl (by kernel_rfl) ?_)
    | (go_at_call 26; refine (c.out _).mono ?_; rintro e w' ⟨rfl, hb⟩)
    | (refine wpList_store_row rfl 27 _ _ rfl (a1 + 1) (rowOf 10 (setV (changeS s i x true))) rfl rfl 27 (rowOf 10 (setV zeroS)) (R2.out _ hb) (by kernel_rfl) rfl (setV_one _ _) ?_))
  exact bodyPost_ret (results_cell_row (p := 6) (ty := 27) (by kernel_rfl) _ _ (a1 + 1) 27 (rowOf 10 (setV (changeS s i x true))) (0, 0) _ rfl ((R2.out _ hb).setRow_ _) Try.underlying27 rfl (by kernel_rfl)) rfl ⟨rfl, by rw [HZ.out]; exact below_setRow_ (below_on hB (Nat.le_of_eq HZ.out.symm) hb) (by omega) _⟩
set_option maxRecDepth 100000 in
theorem yClear_any (s : WS) (hs : OkS s) (i : Int) (hi : -9223372036854775808 ≤ i ∧ i ≤ 9223372036854775807) (w : World) :
    Calls Try.prog 15 #[.agg (rowOf 10 (setV s)), .int .i64 i] w fun e w' => e = .returned (.agg (rowOf 10 (setV (changeS s i 0 false)))) ∧ Below w.heap.size w w' := by
  have c := Lib.hid (fun W => yChange_any s hs i hi 0 (by omega) false W)
  go_enter Try.func15, Try.ntmps15
  go_upto_region 1 with fail
  generalize hW : World.alloc _ _ = W
  obtain ⟨hB, r1, r2⟩ := two_blocks w 27 27 10 10 (setV s) (setV zeroS) W hW
  clear hW
  generalize hz : w.heap.size = a1 at *
  have HZ := Lib.hid hz; clear hz
  have hsz : a1 + 1 < W.heap.size := r2.lt
  have R2 := Lib.hid (fun w' hb => r2.keep (w' := w') hb)
  go_wp2_with (first
    | (refine wpList_load_row rfl 27 _ rfl a1 rfl 27 (rowOf 10 (setV s)) (0, 0) _ r1 Try.underlying27 rfl (by kernel_rfl) ?_)
    | (go_at_call 26; refine (c.out _).mono ?_; rintro e w' ⟨rfl, hb⟩)
    | (refine wpList_store_row rfl 27 _ _ rfl (a1 + 1) (rowOf 10 (setV (changeS s i 0 false))) rfl rfl 27 (rowOf 10 (setV zeroS)) (R2.out _ hb) (by kernel_rfl) rfl (setV_one _ _) ?_))
  exact bodyPost_ret (results_cell_row (p := 4) (ty := 27) (by kernel_rfl) _ _ (a1 + 1) 27 (rowOf 10 (setV (changeS s i 0 false))) (0, 0) _ rfl ((R2.out _ hb).setRow_ _) Try.underlying27 rfl (by kernel_rfl)) rfl ⟨rfl, by rw [HZ.out]; exact below_setRow_ (below_on hB (Nat.le_of_eq HZ.out.symm) hb) (by omega) _⟩
/-- A way is touched. -/
def touchS (s : WS) (i : Int) : WS := changeS s i (s.slot i.toNat) true
theorem set_frozen {w : World} {g : Nat} {t : TypeId} {f : Nat → Value} (h : Row w g t 10 f) :
    w.frozen? ⟨g, 0, none⟩ = false ∧ w.frozen? ⟨g, 1, none⟩ = false ∧ w.frozen? ⟨g, 2, none⟩ = false ∧ w.frozen? ⟨g, 3, none⟩ = false ∧ w.frozen? ⟨g, 4, none⟩ = false ∧ w.frozen? ⟨g, 5, none⟩ = false ∧ w.frozen? ⟨g, 6, none⟩ = false ∧ w.frozen? ⟨g, 7, none⟩ = false ∧ w.frozen? ⟨g, 8, none⟩ = false ∧ w.frozen? ⟨g, 9, none⟩ = false :=
  ⟨h.frozen 0, h.frozen 1, h.frozen 2, h.frozen 3, h.frozen 4, h.frozen 5, h.frozen 6, h.frozen 7, h.frozen 8, h.frozen 9⟩
/-- A whole set, stored cell by cell. -/
theorem row_all {w : World} {g : Nat} {t : TypeId} {f : Nat → Value} (h : Row w g t 10 f) (X : WS) :
    Row ((((((((((w.setCell ⟨g, 0, none⟩ (.int .i64 (X.slot 0))).setCell ⟨g, 1, none⟩ (.bool (X.tch 0))).setCell ⟨g, 2, none⟩ (.int .i64 (X.slot 1))).setCell ⟨g, 3, none⟩ (.bool (X.tch 1))).setCell ⟨g, 4, none⟩ (.int .i64 (X.slot 2))).setCell ⟨g, 5, none⟩ (.bool (X.tch 2))).setCell ⟨g, 6, none⟩ (.int .i64 (X.slot 3))).setCell ⟨g, 7, none⟩ (.bool (X.tch 3))).setCell ⟨g, 8, none⟩ (.int .i64 X.hand)).setCell ⟨g, 9, none⟩ (.int .u64 (X.turns : Nat))) g t 10 (setV X) :=
  ((((((((((h.set_ 0 _).set_ 1 _).set_ 2 _).set_ 3 _).set_ 4 _).set_ 5 _).set_ 6 _).set_ 7 _).set_ 8 _).set_ 9 _).congr fun i hi => by
    match i, hi with
    | 0, _ => rfl
    | 1, _ => rfl
    | 2, _ => rfl
    | 3, _ => rfl
    | 4, _ => rfl
    | 5, _ => rfl
    | 6, _ => rfl
    | 7, _ => rfl
    | 8, _ => rfl
    | 9, _ => rfl
theorem below_all {B g : Nat} {w w' : World} (h : Below B w w') (hg : B ≤ g) (X : WS) :
    Below B w ((((((((((w'.setCell ⟨g, 0, none⟩ (.int .i64 (X.slot 0))).setCell ⟨g, 1, none⟩ (.bool (X.tch 0))).setCell ⟨g, 2, none⟩ (.int .i64 (X.slot 1))).setCell ⟨g, 3, none⟩ (.bool (X.tch 1))).setCell ⟨g, 4, none⟩ (.int .i64 (X.slot 2))).setCell ⟨g, 5, none⟩ (.bool (X.tch 2))).setCell ⟨g, 6, none⟩ (.int .i64 (X.slot 3))).setCell ⟨g, 7, none⟩ (.bool (X.tch 3))).setCell ⟨g, 8, none⟩ (.int .i64 X.hand)).setCell ⟨g, 9, none⟩ (.int .u64 (X.turns : Nat))) :=
  (((((((((h.setCell hg _).setCell hg _).setCell hg _).setCell hg _).setCell hg _).setCell hg _).setCell hg _).setCell hg _).setCell hg _).setCell hg _
set_option maxRecDepth 100000 in
set_option maxHeartbeats 2000000 in
theorem yTouch_any (s : WS) (hs : OkS s) (i : Int) (hi : -9223372036854775808 ≤ i ∧ i ≤ 9223372036854775807) (w : World) :
    Calls Try.prog 13 #[.agg (rowOf 10 (setV s)), .int .i64 i] w fun e w' => e = .returned (.agg (rowOf 10 (setV (touchS s i)))) ∧ Below w.heap.size w w' := by
  by_cases h : 0 ≤ i ∧ i < 4
  · obtain ⟨k, rfl⟩ := Int.eq_ofNat_of_zero_le h.1
    have hk : k < 4 := by omega
    have c := Lib.hid (fun W => yIs_any k W)
    rw [isB_yes h] at c
    unfold touchS
    rw [Int.toNat_natCast]
    have c2 := fun W => ySwap_any s hs k hi (s.slot k) (hs.slot k) W
    rw [← fold10 s] at c2
    have hX := fold10 (changeS s k (s.slot k) true)
    generalize changeS s k (s.slot k) true = X at *
    rw [← hX] at c2 ⊢
    clear hX
    have C2 := Lib.hid c2
    clear c2
    have q0 : (0 : Int) ≤ (k : Int) := by omega
    have q1 : (k : Int) < 4 := by omega
    clear h hi
    go_enter Try.func13, Try.ntmps13
    go_upto_region 1 with fail
    generalize hW : World.alloc _ _ = W
    obtain ⟨hB, r1, r2⟩ := two_blocks w 27 27 10 10 (setV s) (setV zeroS) W hW
    clear hW
    generalize hz : w.heap.size = a1 at *
    have HZ := Lib.hid hz; clear hz
    have hsz : a1 + 1 < W.heap.size := r2.lt
    obtain ⟨u0, u1, u2, u3, u4, u5, u6, u7, u8, u9⟩ := set_cells r1
    have v2 := set_slot_at r1 k hk
    have R2 := Lib.hid (fun w' (hb : Below W.drew.heap.size W.drew w') => Row.keep (w := W.drew) r2 hb)
    clear r1 r2
    go_upto_region 3 with (go_at_call 25; refine (c.out _).mono ?_; rintro e w' ⟨rfl, rfl⟩)
    go_region_with (go_at_call 14; refine (C2.out _).mono ?_; rintro e w' ⟨rfl, hb⟩; have r3 := R2.out _ hb; obtain ⟨z0, z1, z2, z3, z4, z5, z6, z7, z8, z9⟩ := set_cells r3; obtain ⟨f0, f1, f2, f3, f4, f5, f6, f7, f8, f9⟩ := set_frozen r3)
    all_goals
      clear z0 z1 z2 z3 z4 z5 z6 z7 z8 z9 f0 f1 f2 f3 f4 f5 f6 f7 f8 f9
      have r4 := row_all r3 X
      have b4 := below_all (below_on hB.drew (Nat.le_of_eq HZ.out.symm) hb) (show a1 ≤ a1 + 1 by omega) X
      generalize World.setCell _ _ _ = W3 at *
      rw [fold10 X]
      go_wp2_with fail
      exact bodyPost_ret (results_cell_row (p := 4) (ty := 27) (by kernel_rfl) _ _ (a1 + 1) 27 (rowOf 10 (setV X)) (0, 0) _ rfl r4 Try.underlying27 rfl (by kernel_rfl)) rfl ⟨rfl, by rw [HZ.out]; exact b4⟩
  · have c := Lib.hid (fun W => yIs_any i W)
    rw [isB_no h] at c
    have e1 : touchS s i = s := changeS_no s i h _ _
    rw [e1]
    clear h e1
    go_enter Try.func13, Try.ntmps13
    go_upto_region 1 with fail
    generalize hW : World.alloc _ _ = W
    obtain ⟨hB, r1, r2⟩ := two_blocks w 27 27 10 10 (setV s) (setV zeroS) W hW
    clear hW
    generalize hz : w.heap.size = a1 at *
    have HZ := Lib.hid hz; clear hz
    have hsz : a1 + 1 < W.heap.size := r2.lt
    go_wp2_with (first
      | (go_at_call 25; refine (c.out _).mono ?_; rintro e w' ⟨rfl, rfl⟩)
      | (refine wpList_load_row rfl 27 _ rfl a1 rfl 27 (rowOf 10 (setV s)) (0, 0) _ r1 Try.underlying27 rfl (by kernel_rfl) ?_)
      | (refine wpList_store_row rfl 27 _ _ rfl (a1 + 1) (rowOf 10 (setV s)) rfl rfl 27 (rowOf 10 (setV zeroS)) r2 (by kernel_rfl) rfl (setV_one _ _) ?_))
    exact bodyPost_ret (results_cell_row (p := 4) (ty := 27) (by kernel_rfl) _ _ (a1 + 1) 27 (rowOf 10 (setV s)) (0, 0) _ rfl (r2.setRow_ _) Try.underlying27 rfl (by kernel_rfl)) rfl ⟨rfl, by rw [HZ.out]; exact below_setRow_ hB (by omega) _⟩
end Go.Proofs.Ytoimbgmajoajiaa
