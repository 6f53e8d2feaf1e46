/- Put of package ways. -/
import Derived.Test.YtoimbgmajoajiaaWaysPut
namespace Go.Proofs.Ytoimbgmajoajiaa
open Go.ChangeShapes Go.WideShapes Go.ChangeAt Go.RowKit

def WS.to (s : WS) (i : Nat) : WS := { s with hand := (i : Int) }
/-- Where a new one goes; the set then. -/
def placeS (s : WS) : WS := if emp s < 4 then s else (roundS s).to ((roundI s + 1) % 4)
def placeI (s : WS) : Nat := if emp s < 4 then emp s else roundI s
def putS (s : WS) (x : Int) : WS := changeS (placeS s) (placeI s) x true
theorem roundI_lt (s : WS) : roundI s < 4 := Nat.mod_lt _ (by omega)
theorem placeI_lt (s : WS) : placeI s < 4 := by
  unfold placeI; split
  · assumption
  · exact roundI_lt s
theorem OkS.round {s : WS} (h : OkS s) : OkS (roundS s) := ⟨h.slot, h.hand, h.turns⟩
theorem OkS.to {s : WS} (h : OkS s) {i : Nat} (hi : i < 4) : OkS (s.to i) := ⟨h.slot, ⟨by show -9223372036854775808 ≤ (i : Int); omega, by show (i : Int) ≤ _; omega⟩, h.turns⟩
theorem OkS.place {s : WS} (h : OkS s) : OkS (placeS s) := by
  unfold placeS; split
  · exact h
  · exact h.round.to (by omega)
theorem OkS.putIn {s : WS} (h : OkS s) {x : Int} (hx : -9223372036854775808 ≤ x ∧ x ≤ 9223372036854775807) : OkS (putS s x) := h.place.change _ hx true
theorem place_slot (s : WS) (j : Nat) : (placeS s).slot j = s.slot j := by unfold placeS; split <;> rfl
section
variable {w : World} {g : Nat} {t : TypeId} {s : WS}
theorem row_to (h : Row w g t 10 (setV s)) (i : Nat) : Row (w.setCell ⟨g, 8, none⟩ (.int .i64 (i : Nat))) g t 10 (setV (s.to i)) :=
  (h.set_ 8 _).congr fun j hj => by
    by_cases h1 : j = 8
    · subst h1; rw [if_pos rfl]; rfl
    · rw [if_neg h1]; unfold setV WS.to
      by_cases h2 : j < 8
      · rw [if_pos h2, if_pos h2]
      · rw [if_neg h2, if_neg h2, if_neg (show ¬ j = 8 by omega), if_neg (show ¬ j = 8 by omega)]
end
set_option maxRecDepth 100000 in
set_option maxHeartbeats 1000000 in
theorem yPut_any (s : WS) (hs : OkS s) (x : Int) (hx : -9223372036854775808 ≤ x ∧ x ≤ 9223372036854775807) (w : World) :
    Calls Try.prog 16 #[.agg (rowOf 10 (setV s)), .int .i64 x] w fun e w' => e = .returned (.tuple #[.agg (rowOf 10 (setV (putS s x))), .int .i64 (placeI s : Nat), .int .i64 (s.slot (placeI s))]) ∧ Below w.heap.size w w' := by
  have C1 := Lib.hid (fun W => yFirst_any s hs W)
  rcases Nat.lt_or_ge (emp s) 4 with he | he
  · have e1 : placeI s = emp s := by unfold placeI; rw [if_pos he]
    have e2 : putS s x = changeS s (emp s) x true := by unfold putS placeS; rw [e1, if_pos he]
    have c1 := C1.out
    rw [firstV_yes rfl he] at c1
    have C2 := Lib.hid (fun W => ySwap_any s hs (emp s) (by omega) x hx W)
    rw [e2, e1, emp_slot he]
    replace C1 := Lib.hid c1
    clear e1 e2 c1
    generalize emp s = i at *
    go_enter Try.func16, Try.ntmps16
    go_upto_region 1 with fail
    generalize hW : World.alloc _ _ = W
    obtain ⟨hB, r1, r2⟩ := two_blocks w 27 27 10 10 (setV s) (setV zeroS) W hW
    clear hW
    generalize hz : w.heap.size = a1 at *
    have HZ := Lib.hid hz; clear hz
    have hsz : a1 + 1 < W.heap.size := r2.lt
    have R2 := Lib.hid (fun w' hb => r2.keep (w' := w') hb)
    have R1 := Lib.hid (fun w' hb => r1.keep (w' := w') hb)
    go_wp2_with (first
      | (refine wpList_load_row rfl 27 _ rfl a1 rfl 27 (rowOf 10 (setV s)) (0, 0) _ r1 Try.underlying27 rfl (by kernel_rfl) ?_)
      | (go_at_call 27; refine (C1.out _).mono ?_; rintro e w2 ⟨rfl, hb⟩)
      | (refine wpList_load_row rfl 27 _ rfl a1 rfl 27 (rowOf 10 (setV s)) (0, 0) _ (R1.out _ hb) Try.underlying27 rfl (by kernel_rfl) ?_)
      | (go_at_call 14; refine (C2.out _).mono ?_; rintro e w3 ⟨rfl, hb3⟩)
      | (refine wpList_store_row rfl 27 _ _ rfl (a1 + 1) (rowOf 10 (setV (changeS s i x true))) rfl rfl 27 (rowOf 10 (setV zeroS)) ((R2.out _ hb).keep hb3) (by kernel_rfl) rfl (setV_one _ _) ?_))
    exact bodyPost_ret (results_row2 (p := 4) (u := 5) (v := 6) (ty := 27) (by kernel_rfl) _ _ (a1 + 1) 27 (rowOf 10 (setV (changeS s i x true))) (0, 0) _ rfl (((R2.out _ hb).keep hb3).setRow_ _) Try.underlying27 rfl (by kernel_rfl)) rfl ⟨rfl, by
      rw [HZ.out]; exact below_setRow_ (below_on (below_on hB (Nat.le_of_eq HZ.out.symm) hb) (Nat.le_of_eq HZ.out.symm) hb3) (by omega) _⟩
  · have he4 : emp s = 4 := by have := emp_le s; omega
    have e1 : placeI s = roundI s := by unfold placeI; rw [if_neg (by omega)]
    have e2 : putS s x = changeS ((roundS s).to ((roundI s + 1) % 4)) (roundI s) x true := by unfold putS placeS; rw [e1, if_neg (by omega)]
    have c1 := C1.out
    rw [firstV_no he4] at c1
    have C3 := Lib.hid (fun W => yRound_any s hs W)
    have C2 := Lib.hid (fun W => ySwap_any ((roundS s).to ((roundI s + 1) % 4)) (hs.round.to (by omega)) (roundI s) (by have := roundI_lt s; omega) x hx W)
    have C4 := Lib.hid (fun W => yBehind_any (roundI s) (roundI_lt s) W)
    rw [e2, e1]
    replace C1 := Lib.hid c1
    clear e1 e2 c1 he he4
    have hi := roundI_lt s
    have hsl : ∀ k, (roundS s).slot k = s.slot k := fun _ => rfl
    generalize roundI s = i at *
    generalize roundS s = rs at *
    rw [← hsl]
    clear hsl
    generalize (i + 1) % 4 = h at *
    have b0 : (0 : Int) ≤ (i : Int) := by omega
    have b1 : (i : Int) < 4 := by omega
    go_enter Try.func16, Try.ntmps16
    go_upto_region 1 with fail
    generalize hW : World.alloc _ _ = W
    obtain ⟨hB, r1, r2⟩ := two_blocks w 27 27 10 10 (setV s) (setV zeroS) W hW
    clear hW
    generalize hz : w.heap.size = a1 at *
    have HZ := Lib.hid hz; clear hz
    have hsz : a1 + 1 < W.heap.size := r2.lt
    have R2 := Lib.hid (fun w' hb => r2.keep (w' := w') hb)
    have R1 := Lib.hid (fun w' hb => r1.keep (w' := w') hb)
    go_upto_region 5 with (first
      | (refine wpList_load_row rfl 27 _ rfl a1 rfl 27 (rowOf 10 (setV s)) (0, 0) _ r1 Try.underlying27 rfl (by kernel_rfl) ?_)
      | (go_at_call 27; refine (C1.out _).mono ?_; rintro e w2 ⟨rfl, hb⟩)
      | (refine wpList_load_row rfl 27 _ rfl a1 rfl 27 (rowOf 10 (setV s)) (0, 0) _ (R1.out _ hb) Try.underlying27 rfl (by kernel_rfl) ?_)
      | (go_at_call 28; refine (C3.out _).mono ?_; rintro e w3 ⟨rfl, hb3⟩)
      | (refine wpList_store_row rfl 27 _ _ rfl a1 (rowOf 10 (setV rs)) rfl rfl 27 (rowOf 10 (setV s)) ((R1.out _ hb).keep hb3) (by kernel_rfl) rfl (setV_one _ _) ?_))
    have p1 := ((R1.out _ hb).keep hb3).setRow_ (setV rs)
    have p2 := ((R2.out _ hb).keep hb3).setRow_far (b := a1) (by omega) (rowOf 10 (setV rs))
    have hb4 := below_setRow_ (below_on (below_on hB (Nat.le_of_eq HZ.out.symm) hb) (Nat.le_of_eq HZ.out.symm) hb3) (Nat.le_refl a1) (rowOf 10 (setV rs))
    generalize World.setRow _ _ _ = W4 at *
    have v0 := set_slot_at p1 i hi
    have v8 : W4.cell? ⟨a1, 8, none⟩ = some (.int .i64 rs.hand) := p1.cell (i := 8) (by omega)
    have f8 := p1.frozen 8
    have q1 := row_to p1 h
    have q2 := p2.far (p := ⟨a1, 8, none⟩) (show a1 + 1 ≠ a1 by omega) (.int .i64 (h : Nat))
    have HB := Lib.hid (hb4.setCell (p := ⟨a1, 8, none⟩) (show a1 ≤ a1 from Nat.le_refl _) (.int .i64 (h : Nat)))
    have Q2 := Lib.hid (fun w' hb => q2.keep (w' := w') hb)
    clear p1 p2 hb4 R1 R2 r1 r2 hb hb3 q2 hB
    go_wp2_with (first
      | (go_at_call 29; refine (C4.out _).mono ?_; rintro e w5 ⟨rfl, rfl⟩)
      | (refine wpList_load_row rfl 27 _ rfl a1 rfl 27 (rowOf 10 (setV (rs.to h))) (0, 0) _ q1 Try.underlying27 rfl (by kernel_rfl) ?_)
      | (go_at_call 14; refine (C2.out _).mono ?_; rintro e w6 ⟨rfl, hb6⟩)
      | (refine wpList_store_row rfl 27 _ _ rfl (a1 + 1) (rowOf 10 (setV (changeS (rs.to h) i x true))) rfl rfl 27 (rowOf 10 (setV zeroS)) (Q2.out _ hb6) (by kernel_rfl) rfl (setV_one _ _) ?_))
    exact bodyPost_ret (results_row2 (p := 4) (u := 5) (v := 6) (ty := 27) (by kernel_rfl) _ _ (a1 + 1) 27 (rowOf 10 (setV (changeS (rs.to h) i x true))) (0, 0) _ rfl ((Q2.out _ hb6).setRow_ _) Try.underlying27 rfl (by kernel_rfl)) rfl ⟨rfl, by
      rw [HZ.out]; exact below_setRow_ (below_on HB.out (Nat.le_of_eq HZ.out.symm) hb6) (by omega) _⟩
end Go.Proofs.Ytoimbgmajoajiaa
