/- The document's bared configuration; the chapter's example; statement ConfMay of layer 4, walked. -/
import Derived.Test.YtahhfblgcaadnaaConfBare2
namespace Go.Proofs.Ytahhfblgcaadnaa
open Go.ChangeShapes Go.WideShapes Go.ChangeAt Go.RowKit

theorem three_blocks (w : World) (t1 t2 t3 : TypeId) (n1 n2 n3 : Nat) (f1 f2 f3 : Nat → Value) : ∀ W, ((w.alloc (.cells (rowOf n1 f1) t1)).alloc (.cells (rowOf n2 f2) t2)).alloc (.cells (rowOf n3 f3) t3) = W →
    Below w.heap.size w W ∧ Row W w.heap.size t1 n1 f1 ∧ Row W (w.heap.size + 1) t2 n2 f2 ∧ Row W (w.heap.size + 1 + 1) t3 n3 f3 := by
  rintro W rfl
  obtain ⟨h1, h2, h3⟩ := two_blocks w t1 t2 n1 n2 f1 f2 _ rfl
  refine ⟨h1.alloc (by simp; omega) _, h2.alloc _, h3.alloc _, ?_⟩
  have h := Row.new ((w.alloc (.cells (rowOf n1 f1) t1)).alloc (.cells (rowOf n2 f2) t2)) _ t3 f3 n3 rfl
  simpa using h

set_option maxRecDepth 100000 in
set_option maxHeartbeats 1000000 in
theorem rBare_any (c : Nat → Int) (hc : Ok64 c) (l : Int) (w : World) :
    Calls Try.prog 19 #[.agg (rowOf 14 (ints c)), .int .i64 l] w fun e w' => e = .returned (.agg (rowOf 14 (ints (bare c l)))) ∧ Below w.heap.size w w' := by
  have hT : Hid (∀ i, rbareTo c l 8 i = bare c l i) := Lib.hid (rbareTo_all c l)
  have bc0 := hc 0
  go_enter Try.func19, Try.ntmps19
  go_upto_region 1 with fail
  generalize hW : World.alloc _ _ = W
  obtain ⟨hB, hr, hq⟩ := two_blocks w 24 24 14 14 (ints c) (ints fun _ => 0) W hW
  clear hW
  generalize hz : w.heap.size = a1 at *
  have HZ := Lib.hid hz; clear hz
  obtain ⟨u0, u1, u2, u3, u4, u5, u6, u7, u8, u9, u10, u11, u12, u13⟩ := conf_cells hr
  go_upto_region 2 with fail
  generalize hW : World.alloc _ _ = W1
  rw [fold14 c]
  have hlt0 := hq.lt
  have hs : Row W1 W.heap.size 24 14 (ints (rbareTo c l 0)) := (show Row W1 W.heap.size 24 14 (ints c) by rw [← hW]; exact Row.new W _ _ _ _ rfl).congr fun i _ => by unfold ints; rw [rbareTo_zero]
  replace hr : Row W1 a1 24 14 (ints c) := by rw [← hW]; exact hr.alloc _
  replace hq : Row W1 (a1 + 1) 24 14 (ints fun _ => 0) := by rw [← hW]; exact hq.alloc _
  replace hB : Below a1 w W1 := by rw [← hW]; exact hB.alloc (by omega) _
  clear hW
  clear u0 u1 u2 u3 u4 u5 u6 u7 u8 u9 u10 u11 u12 u13
  generalize W.heap.size = g2 at *
  have f14 := fold14 c
  go_wp2_with fail
  go_loopw [6] (fun t wr => ∃ k : Nat, t = .int .i64 k ∧ k ≤ 8 ∧ Row wr a1 24 14 (ints c) ∧ Row wr (a1 + 1) 24 14 (ints fun _ => 0) ∧ Row wr g2 24 14 (ints (rbareTo c l k)) ∧ Below a1 w wr) (fun t _ => 8 - (intOf t).toNat)
  case atStart => exact ⟨0, rfl, by omega, hr, hq, hs, hB⟩
  case round =>
    obtain ⟨k, rfl, hk, hrr, hqr, hsr, hBr⟩ := hrel
    clear hr hq hs hB
    by_cases hlt : k < 8
    · obtain ⟨v0, v1, v2, v3, v4, v5, v6, v7, v8, v9, v10, v11, v12, v13⟩ := conf_cells hrr
      have cL := Lib.hid (rLevel_any c hc k (by omega))
      have Hno := Lib.hid (rbareTo_no c l k)
      have Hyes := Lib.hid (rbareTo_yes c l k)
      have hb : 0 ≤ lvl c k → 1 ≤ c 0 := fun h => by
        rcases lvl_bounds c k with h2 | h2
        · omega
        · omega
      go_wp2_with fail
      refine (cL.out _).mono ?_; rintro e wl ⟨rfl, hbl⟩
      replace hrr := hrr.keep hbl
      replace hqr := hqr.keep hbl
      replace hsr := hsr.keep hbl
      replace hBr := below_on hBr (Nat.le_of_eq HZ.out.symm) hbl
      clear v0 v1 v2 v3 v4 v5 v6 v7 v8 v9 v10 v11 v12 v13 cL hbl
      have v0 : wl.cell? ⟨a1, 0, none⟩ = some (.int .i64 (c 0)) := hrr.cell (i := 0) (by omega)
      have v2 : wl.cell? ⟨g2, 2 + k, none⟩ = some (.int .i64 (rbareTo c l k (2 + k))) := hsr.cell (i := 2 + k) (by omega)
      have v3 : wl.frozen? ⟨g2, 2 + k, none⟩ = false := hsr.frozen _
      generalize lvl c k = n at *
      by_cases g1 : 0 ≤ n
      · have hc0 := hb g1
        clear hb
        by_cases g2' : l < n
        · have hyes := Lib.hid (Hyes.out ⟨g1, g2'⟩)
          clear Hno Hyes
          go_wp2_with fail
          go_roundw
          case rel => exact ⟨k + 1, by go_num, by omega, hrr.far (by show _ ≠ _; simp; omega) _, hqr.far (by show _ ≠ _; simp; omega) _, (hsr.set_ (2 + k) (.int .i64 (c 0 - 1))).congr fun i _ => hyes.out i, hBr.setCell (by simp; omega) _⟩
          case measure => simp [intOf]; omega
        · have hno := Lib.hid (Hno.out (fun h => g2' h.2))
          clear Hno Hyes
          go_wp2_with fail
          go_roundw
          case rel => exact ⟨k + 1, by go_num, by omega, hrr, hqr, hsr.congr fun i _ => by unfold ints; rw [hno.out], hBr⟩
          case measure => simp [intOf]; omega
      · have hno := Lib.hid (Hno.out (fun h => g1 h.1))
        clear Hno Hyes hb
        go_wp2_with fail
        go_roundw
        case rel => exact ⟨k + 1, by go_num, by omega, hrr, hqr, hsr.congr fun i _ => by unfold ints; rw [hno.out], hBr⟩
        case measure => simp [intOf]; omega
    · obtain rfl : k = 8 := by omega
      clear f14
      have hs8 := hsr.congr (f' := ints (bare c l)) fun i _ => by unfold ints; rw [hT.out]
      go_wp2_with (first
        | (refine wpList_load_row rfl 24 _ rfl g2 rfl 24 (rowOf 14 (ints (bare c l))) (0, 0) _ hs8 Try.underlying24 rfl (by kernel_rfl) ?_)
        | (refine wpList_store_row rfl 24 _ _ rfl (a1 + 1) (rowOf 14 (ints (bare c l))) rfl rfl 24 (rowOf 14 (ints fun _ => 0)) hqr (by kernel_rfl) rfl (ints_one _ _) ?_))
      exact bodyPost_ret (results_cell_row (p := 4) (ty := 24) (by kernel_rfl) _ _ (a1 + 1) 24 (rowOf 14 (ints (bare c l))) (0, 0) _ rfl (hqr.setRow_ _) Try.underlying24 rfl (by kernel_rfl)) rfl ⟨rfl, by rw [HZ.out]; exact below_setRow_ hBr (by omega) _⟩

/-- The configuration of the law's example. -/
def exC : Nat → Int := fun i => if i = 0 then 2 else if i = 1 then 3 else if i = 3 then 1 else if i = 10 then 2 else if i = 11 then 1 else if i = 12 then 1 else 0
theorem exC_ok : Ok64 exC := fun i => by unfold exC; repeat' split
                                         all_goals omega
set_option maxRecDepth 100000 in
theorem lives4_any (w : World) : Calls Try.prog 11 #[] w fun e w' => e = .returned (.bool true) ∧ Below w.heap.size w w' := by
  have f14 := fold14 exC
  have hm : mayB exC = true := by decide
  have c1 := cMay_any exC exC_ok
  rw [hm] at c1
  have C1 := Lib.hid c1; clear c1
  have h2 : thrs exC 0 0 = [0, 2] := by decide
  have h3 : thrs exC 0 1 = [0, 1, 2] := by decide
  have c2 := cAt_any exC exC_ok 0
  have c3 := cUpTo_any exC exC_ok 1
  rw [h2] at c2
  rw [h3] at c3
  have C2 := Lib.hid c2; clear c2
  have C3 := Lib.hid c3; clear c3 h2 h3 hm
  go_enter Try.func11, Try.ntmps11
  go_upto_region 2 with fail
  generalize hW : World.alloc _ _ = W
  have hr : Row W w.heap.size 24 14 (ints exC) := by rw [← hW]; exact Row.new _ _ _ _ _ rfl
  have hB : Below w.heap.size w W := by rw [← hW]; exact (Below.refl _ _).alloc (Nat.le_refl _) _
  clear hW
  generalize hz : w.heap.size = a1 at *
  have HZ := Lib.hid hz; clear hz
  obtain ⟨u0, u1, u2, u3, u4, u5, u6, u7, u8, u9, u10, u11, u12, u13⟩ := conf_cells hr
  go_wp2_with fail
  refine (C1.out _).mono ?_; rintro e W1 ⟨rfl, hb1⟩
  clear u0 u1 u2 u3 u4 u5 u6 u7 u8 u9 u10 u11 u12 u13
  replace hr := hr.keep hb1
  replace hB := below_on hB (Nat.le_of_eq HZ.out.symm) hb1
  clear hb1 C1
  obtain ⟨u0, u1, u2, u3, u4, u5, u6, u7, u8, u9, u10, u11, u12, u13⟩ := conf_cells hr
  go_wp2_with fail
  refine (C2.out _).mono ?_; rintro e W2 ⟨A, cap, rfl, hrow, hb1⟩
  clear u0 u1 u2 u3 u4 u5 u6 u7 u8 u9 u10 u11 u12 u13
  replace hr := hr.keep hb1
  replace hB := below_on hB (Nat.le_of_eq HZ.out.symm) hb1
  clear hb1 C2
  obtain ⟨u0, u1, u2, u3, u4, u5, u6, u7, u8, u9, u10, u11, u12, u13⟩ := conf_cells hr
  go_wp2_with fail
  clear u0 u1 u2 u3 u4 u5 u6 u7 u8 u9 u10 u11 u12 u13
  have hq : RowIs (W2.alloc (.cells #[.int .i64 0, .int .i64 2] 3)) (some ⟨W2.heap.size, 0, none⟩) [(0 : Int), 2].length (fun i => .int .i64 ([(0 : Int), 2].getD i 0)) :=
    (Own.new W2 #[.int .i64 0, .int .i64 2] 3 (fun i => .int .i64 ([(0 : Int), 2].getD i 0)) 2 rfl (fun i hi => by
      match i, hi with
      | 0, _ => rfl
      | 1, _ => rfl)).row
  have hrow' := hrow.below ((Below.refl W2.heap.size W2).alloc (Nat.le_refl _) (.cells #[.int .i64 0, .int .i64 2] 3))
  have hI := Lib.hid (rInts_any A (some ⟨W2.heap.size, 0, none⟩) cap 2 [0, 2] [0, 2] (by simp) (by simp) _ hrow' hq)
  have hr' := hr.alloc (.cells #[.int .i64 0, .int .i64 2] 3)
  have hB' := hB.alloc (by have := HZ.out; have := hB.size; omega) (.cells #[.int .i64 0, .int .i64 2] 3)
  clear hrow hrow' hq hr hB
  refine hI.out.mono ?_; rintro e W3 ⟨rfl, hd⟩
  replace hB' := hB'.trans (hd.below _)
  replace hr' : Row W3 a1 24 14 (ints exC) := by obtain ⟨m, rfl⟩ := hd; exact hr'
  clear hd hI
  obtain ⟨u0, u1, u2, u3, u4, u5, u6, u7, u8, u9, u10, u11, u12, u13⟩ := conf_cells hr'
  have hdec : decide ([(0 : Int), 2] = [0, 2]) = true := by decide
  rw [hdec]
  clear hdec
  go_wp2_with fail
  refine (C3.out _).mono ?_; rintro e W4 ⟨A2, cap2, rfl, hrow, hb1⟩
  clear u0 u1 u2 u3 u4 u5 u6 u7 u8 u9 u10 u11 u12 u13
  have hBe := below_on hB' (Nat.le_of_eq HZ.out.symm) hb1
  clear hb1 hrow hr' hB' f14
  go_wp2_with fail
  go_ret
  exact ⟨rfl, by rw [HZ.out]; exact hBe⟩

set_option maxRecDepth 100000 in
set_option maxHeartbeats 4000000 in
theorem confMay_walk (c : Nat → Int) (hc : Ok64 c) (t : Int) (ht : -9223372036854775808 ≤ t ∧ t ≤ 9223372036854775807) (w : World) :
    Calls Try.prog 3 #[.agg (rowOf 14 (ints c)), .int .i64 t] w fun e w' => e = .returned (.bool true) ∧ Below w.heap.size w w' := by
  have f14 := fold14 c
  have c1 := Lib.hid (cMay_any c hc)
  have c2 := Lib.hid (rMay_any c hc)
  have c3 := Lib.hid (cLevel_any c hc t ht)
  have c4 := Lib.hid (rLevel_any c hc t ht)
  have e1 : ((mayB c) == (mayB c)) = true := by simp
  have e2 : ((lvl c t) == (lvl c t)) = true := by simp
  generalize mayB c = m at *
  generalize lvl c t = n at *
  go_enter Try.func3, Try.ntmps3
  go_upto_region 1 with fail
  generalize hW : World.alloc _ _ = W
  have hr : Row W w.heap.size 24 14 (ints c) := by rw [← hW]; exact Row.new _ _ _ _ _ rfl
  have hB : Below w.heap.size w W := by rw [← hW]; exact (Below.refl _ _).alloc (Nat.le_refl _) _
  clear hW
  generalize hz : w.heap.size = a1 at *
  have HZ := Lib.hid hz; clear hz
  obtain ⟨u0, u1, u2, u3, u4, u5, u6, u7, u8, u9, u10, u11, u12, u13⟩ := conf_cells hr
  have hkeep : ∀ w1 w2 : World, Below w1.heap.size w1 w2 → (fun w' : World => Below a1 w w' ∧ Row w' a1 24 14 (ints c) ∧ w'.cell? ⟨a1, 0, none⟩ = some (.int .i64 (c 0)) ∧ w'.cell? ⟨a1, 1, none⟩ = some (.int .i64 (c 1)) ∧ w'.cell? ⟨a1, 2, none⟩ = some (.int .i64 (c 2)) ∧ w'.cell? ⟨a1, 3, none⟩ = some (.int .i64 (c 3)) ∧ w'.cell? ⟨a1, 4, none⟩ = some (.int .i64 (c 4)) ∧ w'.cell? ⟨a1, 5, none⟩ = some (.int .i64 (c 5)) ∧ w'.cell? ⟨a1, 6, none⟩ = some (.int .i64 (c 6)) ∧ w'.cell? ⟨a1, 7, none⟩ = some (.int .i64 (c 7)) ∧ w'.cell? ⟨a1, 8, none⟩ = some (.int .i64 (c 8)) ∧ w'.cell? ⟨a1, 9, none⟩ = some (.int .i64 (c 9)) ∧ w'.cell? ⟨a1, 10, none⟩ = some (.int .i64 (c 10)) ∧ w'.cell? ⟨a1, 11, none⟩ = some (.int .i64 (c 11)) ∧ w'.cell? ⟨a1, 12, none⟩ = some (.int .i64 (c 12)) ∧ w'.cell? ⟨a1, 13, none⟩ = some (.int .i64 (c 13))) w1 → (fun w' : World => Below a1 w w' ∧ Row w' a1 24 14 (ints c) ∧ w'.cell? ⟨a1, 0, none⟩ = some (.int .i64 (c 0)) ∧ w'.cell? ⟨a1, 1, none⟩ = some (.int .i64 (c 1)) ∧ w'.cell? ⟨a1, 2, none⟩ = some (.int .i64 (c 2)) ∧ w'.cell? ⟨a1, 3, none⟩ = some (.int .i64 (c 3)) ∧ w'.cell? ⟨a1, 4, none⟩ = some (.int .i64 (c 4)) ∧ w'.cell? ⟨a1, 5, none⟩ = some (.int .i64 (c 5)) ∧ w'.cell? ⟨a1, 6, none⟩ = some (.int .i64 (c 6)) ∧ w'.cell? ⟨a1, 7, none⟩ = some (.int .i64 (c 7)) ∧ w'.cell? ⟨a1, 8, none⟩ = some (.int .i64 (c 8)) ∧ w'.cell? ⟨a1, 9, none⟩ = some (.int .i64 (c 9)) ∧ w'.cell? ⟨a1, 10, none⟩ = some (.int .i64 (c 10)) ∧ w'.cell? ⟨a1, 11, none⟩ = some (.int .i64 (c 11)) ∧ w'.cell? ⟨a1, 12, none⟩ = some (.int .i64 (c 12)) ∧ w'.cell? ⟨a1, 13, none⟩ = some (.int .i64 (c 13))) w2 := by
    rintro w1 w2 hb ⟨h0, h4, _⟩
    exact conf_held (below_on h0 (Nat.le_of_eq HZ.out.symm) hb) (h4.keep hb)
  have H0 := Lib.hid (conf_held hB.drew hr.drew)
  clear u0 u1 u2 u3 u4 u5 u6 u7 u8 u9 u10 u11 u12 u13
  clear hB hr
  go_region_held3 (fun w' => Below a1 w w' ∧ Row w' a1 24 14 (ints c) ∧ w'.cell? ⟨a1, 0, none⟩ = some (.int .i64 (c 0)) ∧ w'.cell? ⟨a1, 1, none⟩ = some (.int .i64 (c 1)) ∧ w'.cell? ⟨a1, 2, none⟩ = some (.int .i64 (c 2)) ∧ w'.cell? ⟨a1, 3, none⟩ = some (.int .i64 (c 3)) ∧ w'.cell? ⟨a1, 4, none⟩ = some (.int .i64 (c 4)) ∧ w'.cell? ⟨a1, 5, none⟩ = some (.int .i64 (c 5)) ∧ w'.cell? ⟨a1, 6, none⟩ = some (.int .i64 (c 6)) ∧ w'.cell? ⟨a1, 7, none⟩ = some (.int .i64 (c 7)) ∧ w'.cell? ⟨a1, 8, none⟩ = some (.int .i64 (c 8)) ∧ w'.cell? ⟨a1, 9, none⟩ = some (.int .i64 (c 9)) ∧ w'.cell? ⟨a1, 10, none⟩ = some (.int .i64 (c 10)) ∧ w'.cell? ⟨a1, 11, none⟩ = some (.int .i64 (c 11)) ∧ w'.cell? ⟨a1, 12, none⟩ = some (.int .i64 (c 12)) ∧ w'.cell? ⟨a1, 13, none⟩ = some (.int .i64 (c 13))) (first | exact H0.out | exact hkeep _ _ hb (by assumption) | assumption)
    (first | (go_at_call 7; refine (c1.out _).mono ?_; rintro e w' ⟨rfl, hb⟩) | (go_at_call 8; refine (c2.out _).mono ?_; rintro e w' ⟨rfl, hb⟩) | (go_at_call 9; refine (c3.out _).mono ?_; rintro e w' ⟨rfl, hb⟩) | (go_at_call 10; refine (c4.out _).mono ?_; rintro e w' ⟨rfl, hb⟩) | (go_at_call 11; refine (lives4_any _).mono ?_; rintro e w' ⟨rfl, hb⟩))
  all_goals
    have hF := And.left (by assumption : Below a1 w w' ∧ Row w' a1 24 14 (ints c) ∧ w'.cell? ⟨a1, 0, none⟩ = some (.int .i64 (c 0)) ∧ w'.cell? ⟨a1, 1, none⟩ = some (.int .i64 (c 1)) ∧ w'.cell? ⟨a1, 2, none⟩ = some (.int .i64 (c 2)) ∧ w'.cell? ⟨a1, 3, none⟩ = some (.int .i64 (c 3)) ∧ w'.cell? ⟨a1, 4, none⟩ = some (.int .i64 (c 4)) ∧ w'.cell? ⟨a1, 5, none⟩ = some (.int .i64 (c 5)) ∧ w'.cell? ⟨a1, 6, none⟩ = some (.int .i64 (c 6)) ∧ w'.cell? ⟨a1, 7, none⟩ = some (.int .i64 (c 7)) ∧ w'.cell? ⟨a1, 8, none⟩ = some (.int .i64 (c 8)) ∧ w'.cell? ⟨a1, 9, none⟩ = some (.int .i64 (c 9)) ∧ w'.cell? ⟨a1, 10, none⟩ = some (.int .i64 (c 10)) ∧ w'.cell? ⟨a1, 11, none⟩ = some (.int .i64 (c 11)) ∧ w'.cell? ⟨a1, 12, none⟩ = some (.int .i64 (c 12)) ∧ w'.cell? ⟨a1, 13, none⟩ = some (.int .i64 (c 13)))
    clear H0 hkeep f14
    go_wp2
    go_ret
    exact ⟨rfl, by rw [HZ.out]; exact hF⟩
end Go.Proofs.Ytahhfblgcaadnaa
