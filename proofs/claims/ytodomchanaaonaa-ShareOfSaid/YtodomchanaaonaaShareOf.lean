/- The laws ShareOf, ShareUpTo. -/
import Derived.Test.YtodomchanaaonaaShareLives
import Derived.Deep.RegionHeld3
namespace Go.Proofs.Ytodomchanaaonaa
open Go.ChangeShapes Go.WideShapes Go.ChangeAt Go.RowKit

theorem shareOf_long (A : Option Addr) (c : Nat) (L : List Opr) (h : 100 < L.length) (hL : L.length ≤ 9223372036854775807) (lv pt : Int) (w : World) :
    Calls Try.prog 3 #[.slice A L.length c, .int .i64 lv, .int .i64 pt] w fun e w' => e = .returned (.bool true) ∧ Below w.heap.size w w' := by
  have C9 := Lib.hid fun W => lives15_any W
  generalize L.length = n at *
  go_enter Try.func3, Try.ntmps3
  go_wp2_with (go_at_call 6; refine (C9.out _).mono ?_; rintro e w' ⟨rfl, hb⟩)
  go_ret
  exact ⟨rfl, hb⟩
set_option maxRecDepth 100000 in
set_option maxHeartbeats 4000000 in
theorem shareOf_short (A : Option Addr) (c : Nat) (L : List Opr) (hL : L.length ≤ 100) (hk : OkL L) (lv pt : Int) (w : World) (ha : LiesC w A (flatF opF L)) :
    Calls Try.prog 3 #[.slice A L.length c, .int .i64 lv, .int .i64 pt] w fun e w' => e = .returned (.bool true) ∧ Below w.heap.size w w' := by
  have C9 := Lib.hid fun W => lives15_any W
  have C1 := Lib.hid (fun W h => sOf_any A c L (by omega) hk lv pt W h)
  have C2 := Lib.hid (fun W h => r15Of_any A c L (by omega) hk lv pt W h)
  have hol := keepUp_len (shareB lv pt) L L.length
  have HA := Lib.hid ha
  have HK := Lib.hid hk
  clear ha hk
  generalize keepUp (shareB lv pt) L L.length = O at *
  have C5 := Lib.hid (fun A B c d W h1 h2 => (r14Opersame_any A B c d O O (by omega) (by omega) W h1 h2).mono fun _ _ ⟨h, k⟩ => (⟨h, k.below W.heap.size⟩ : _ ∧ Below W.heap.size W _))
  simp only [decide_true] at C5
  generalize hn : L.length = n at *
  generalize O.length = m at *
  go_enter Try.func3, Try.ntmps3
  go_wp2_with fail
  go_loopw [7] (fun s wr => ∃ k : Nat, s = .int .i64 k ∧ k ≤ n ∧ Below w.heap.size w wr) (fun s _ => n - (intOf s).toNat)
  case atStart => exact ⟨0, rfl, Nat.zero_le _, Below.refl _ _⟩
  case round =>
    obtain ⟨k, rfl, hk, R⟩ := hrel
    by_cases hlt : k < n
    · obtain ⟨b1, off1, rfl, hb1, x1⟩ := (HA.out.keep R).atO (by omega)
      obtain ⟨p0, p1, p2, p3, p4, p5, p6, p7, p8, p9, p10, p11, p12, p13, p14, p15⟩ := opr_cells (x1 k (by omega))
      have D1 := Lib.hid (fun W => sWhich_any (oprN L k) W)
      have D2 := Lib.hid (fun W => r15Which_any (oprN L k) (HK.out k (by omega)) W)
      have HR := Lib.hid R
      have HX := Lib.hid x1
      clear x1 R
      generalize ho : oprN L k = o at *
      have HO := Lib.hid ho; clear ho
      generalize whichN o = x at *
      generalize whichB o = b at *
      have hxx : (x != x) = false := by simp
      have hbb : (b != b) = false := by simp
      go_upto_region 7 with (go_at_call 7; refine (D1.out _).mono ?_; rintro e w1 ⟨rfl, hb⟩; have HR1 := Lib.hid (HR.out.trans (hb.mono HR.out.size)))
      obtain ⟨q0, q1, q2, q3, q4, q5, q6, q7, q8, q9, q10, q11, q12, q13, q14, q15⟩ := opr_cells (w := w1) (b := b1) (o := off1 + k * 16) (x := o) (fun j hj => (hb.cell (p := ⟨b1, off1 + k * 16 + j, none⟩) hb1).trans (by rw [← HO.out]; exact HX.out k (by omega) j hj))
      clear hb HX p0 p1 p2 p3 p4 p5 p6 p7 p8 p9 p10 p11 p12 p13 p14 p15 hb1 D1 HR
      go_wp2_with (go_at_call 8; refine (D2.out _).mono ?_; rintro e w2 ⟨rfl, hb⟩; have HR2 := Lib.hid (HR1.out.trans (hb.mono HR1.out.size)); clear hb)
      go_roundw
      case rel => exact ⟨k + 1, by go_num, by omega, HR2.out⟩
      case measure => simp [intOf]; omega
    · obtain rfl : k = n := by omega
      have HR := Lib.hid R; clear R
      go_wp2_with (first
        | (go_at_call 10; refine (C1.out _ (HA.out.keep HR.out)).mono ?_; rintro e w1 ⟨v1, rfl, ⟨A1, c1, rfl, -, -, -, d1, -⟩, -, hb⟩; have HB1 := Lib.hid (HR.out.trans (hb.mono HR.out.size)); have HD1 := Lib.hid d1; clear hb d1)
        | (go_at_call 11; refine (C2.out _ (HA.out.keep HB1.out)).mono ?_; rintro e w2 ⟨v2, rfl, ⟨A2, c2, rfl, -, -, -, d2, -⟩, -, hb⟩; have HB2 := Lib.hid (HB1.out.trans (hb.mono HB1.out.size)); have HD2 := Lib.hid d2; replace HD1 := Lib.hid (HD1.out.keep hb); clear hb d2)
        | (go_at_call 9; refine (C5.out _ _ _ _ _ HD1.out HD2.out).mono ?_; rintro e w3 ⟨rfl, hb⟩; have HB3 := Lib.hid (HB2.out.trans (hb.mono HB2.out.size)); clear hb HD1 HD2)
        | (go_at_call 6; refine (C9.out _).mono ?_; rintro e w4 ⟨rfl, hb⟩; have HB4 := Lib.hid (HB3.out.trans (hb.mono HB3.out.size)); clear hb))
      go_ret
      exact ⟨rfl, HB4.out⟩
theorem shareOf_walk (A : Option Addr) (c : Nat) (L : List Opr) (hL : L.length ≤ 9223372036854775807) (hk : OkL L) (lv pt : Int) (w : World) (ha : LiesC w A (flatF opF L)) :
    Calls Try.prog 3 #[.slice A L.length c, .int .i64 lv, .int .i64 pt] w fun e w' => e = .returned (.bool true) ∧ Below w.heap.size w w' := by
  by_cases h : 100 < L.length
  · exact shareOf_long A c L h hL lv pt w
  · exact shareOf_short A c L (by omega) hk lv pt w ha

theorem shareUpTo_long (A : Option Addr) (d : Nat) (L : List Opr) (h : 100 < L.length) (hL : L.length ≤ 9223372036854775807) (c : Nat → Int) (l : Int) (w : World) :
    Calls Try.prog 4 #[.slice A L.length d, .agg (rowOf 14 (ints c)), .int .i64 l] w fun e w' => e = .returned (.bool true) ∧ Below w.heap.size w w' := by
  have C9 := Lib.hid fun W => lives15_any W
  have HB : Hid (Below w.heap.size w (w.alloc (.cells (rowOf 14 (ints c)) 41))) := Lib.hid ((Below.refl _ w).alloc (Nat.le_refl _) _)
  generalize L.length = n at *
  go_enter Try.func4, Try.ntmps4
  go_wp2_with (go_at_call 6; refine (C9.out _).mono ?_; rintro e w' ⟨rfl, hb⟩)
  go_ret
  exact ⟨rfl, HB.out.trans (hb.mono (by simp))⟩
set_option maxRecDepth 100000 in
set_option maxHeartbeats 4000000 in
theorem shareUpTo_short (A : Option Addr) (d : Nat) (L : List Opr) (hL : L.length ≤ 100) (hk : OkL L) (c : Nat → Int) (hc : Ok64 c) (l : Int) (w : World) (ha : LiesC w A (flatF opF L)) :
    Calls Try.prog 4 #[.slice A L.length d, .agg (rowOf 14 (ints c)), .int .i64 l] w fun e w' => e = .returned (.bool true) ∧ Below w.heap.size w w' := by
  have C9 := Lib.hid fun W => lives15_any W
  have C1 := Lib.hid (fun W h => sUpTo_any A d L (by omega) hk c hc l W h)
  have C2 := Lib.hid (fun W h => r15UpTo_any A d L (by omega) hk c hc l W h)
  have hol := keepUp_len (uptoB c l) L L.length
  have f14 := fold14 c
  generalize keepUp (uptoB c l) L L.length = O at *
  have C5 := Lib.hid (fun A B c d W h1 h2 => (r14Opersame_any A B c d O O (by omega) (by omega) W h1 h2).mono fun _ _ ⟨h, k⟩ => (⟨h, k.below W.heap.size⟩ : _ ∧ Below W.heap.size W _))
  simp only [decide_true] at C5
  have HA := Lib.hid ha
  clear ha hk
  generalize L.length = n at *
  generalize O.length = m at *
  go_enter Try.func4, Try.ntmps4
  go_upto_region 3 with fail
  generalize hW : World.alloc _ _ = W
  have hr : Row W w.heap.size 41 14 (ints c) := by rw [← hW]; exact Row.new _ _ _ _ _ rfl
  have hB : Below w.heap.size w W := by rw [← hW]; exact (Below.refl _ _).alloc (Nat.le_refl _) _
  clear hW
  generalize hz : w.heap.size = a1 at *
  have hst : ∀ w' : World, Below a1 w w' → Row w' a1 41 14 (ints c) → (Below a1 w w' ∧ Row w' a1 41 14 (ints c) ∧ w'.cell? ⟨a1, 0, none⟩ = some (.int .i64 (c 0)) ∧ w'.cell? ⟨a1, 1, none⟩ = some (.int .i64 (c 1)) ∧ w'.cell? ⟨a1, 2, none⟩ = some (.int .i64 (c 2)) ∧ w'.cell? ⟨a1, 3, none⟩ = some (.int .i64 (c 3)) ∧ w'.cell? ⟨a1, 4, none⟩ = some (.int .i64 (c 4)) ∧ w'.cell? ⟨a1, 5, none⟩ = some (.int .i64 (c 5)) ∧ w'.cell? ⟨a1, 6, none⟩ = some (.int .i64 (c 6)) ∧ w'.cell? ⟨a1, 7, none⟩ = some (.int .i64 (c 7)) ∧ w'.cell? ⟨a1, 8, none⟩ = some (.int .i64 (c 8)) ∧ w'.cell? ⟨a1, 9, none⟩ = some (.int .i64 (c 9)) ∧ w'.cell? ⟨a1, 10, none⟩ = some (.int .i64 (c 10)) ∧ w'.cell? ⟨a1, 11, none⟩ = some (.int .i64 (c 11)) ∧ w'.cell? ⟨a1, 12, none⟩ = some (.int .i64 (c 12)) ∧ w'.cell? ⟨a1, 13, none⟩ = some (.int .i64 (c 13))) := fun w' h1 h2 => ⟨h1, h2, conf_cells h2⟩
  have hkeep : ∀ w1 w2 : World, Below w1.heap.size w1 w2 → (fun w' : World => (Below a1 w w' ∧ Row w' a1 41 14 (ints c) ∧ w'.cell? ⟨a1, 0, none⟩ = some (.int .i64 (c 0)) ∧ w'.cell? ⟨a1, 1, none⟩ = some (.int .i64 (c 1)) ∧ w'.cell? ⟨a1, 2, none⟩ = some (.int .i64 (c 2)) ∧ w'.cell? ⟨a1, 3, none⟩ = some (.int .i64 (c 3)) ∧ w'.cell? ⟨a1, 4, none⟩ = some (.int .i64 (c 4)) ∧ w'.cell? ⟨a1, 5, none⟩ = some (.int .i64 (c 5)) ∧ w'.cell? ⟨a1, 6, none⟩ = some (.int .i64 (c 6)) ∧ w'.cell? ⟨a1, 7, none⟩ = some (.int .i64 (c 7)) ∧ w'.cell? ⟨a1, 8, none⟩ = some (.int .i64 (c 8)) ∧ w'.cell? ⟨a1, 9, none⟩ = some (.int .i64 (c 9)) ∧ w'.cell? ⟨a1, 10, none⟩ = some (.int .i64 (c 10)) ∧ w'.cell? ⟨a1, 11, none⟩ = some (.int .i64 (c 11)) ∧ w'.cell? ⟨a1, 12, none⟩ = some (.int .i64 (c 12)) ∧ w'.cell? ⟨a1, 13, none⟩ = some (.int .i64 (c 13)))) w1 → (fun w' : World => (Below a1 w w' ∧ Row w' a1 41 14 (ints c) ∧ w'.cell? ⟨a1, 0, none⟩ = some (.int .i64 (c 0)) ∧ w'.cell? ⟨a1, 1, none⟩ = some (.int .i64 (c 1)) ∧ w'.cell? ⟨a1, 2, none⟩ = some (.int .i64 (c 2)) ∧ w'.cell? ⟨a1, 3, none⟩ = some (.int .i64 (c 3)) ∧ w'.cell? ⟨a1, 4, none⟩ = some (.int .i64 (c 4)) ∧ w'.cell? ⟨a1, 5, none⟩ = some (.int .i64 (c 5)) ∧ w'.cell? ⟨a1, 6, none⟩ = some (.int .i64 (c 6)) ∧ w'.cell? ⟨a1, 7, none⟩ = some (.int .i64 (c 7)) ∧ w'.cell? ⟨a1, 8, none⟩ = some (.int .i64 (c 8)) ∧ w'.cell? ⟨a1, 9, none⟩ = some (.int .i64 (c 9)) ∧ w'.cell? ⟨a1, 10, none⟩ = some (.int .i64 (c 10)) ∧ w'.cell? ⟨a1, 11, none⟩ = some (.int .i64 (c 11)) ∧ w'.cell? ⟨a1, 12, none⟩ = some (.int .i64 (c 12)) ∧ w'.cell? ⟨a1, 13, none⟩ = some (.int .i64 (c 13)))) w2 := fun w1 w2 hb h => hst w2 (below_on h.1 (Nat.le_of_eq hz.symm) hb) (h.2.1.keep hb)
  have HST := Lib.hid (hst W.drew hB.drew hr.drew)
  have HLK : Hid (∀ w', (fun w' : World => (Below a1 w w' ∧ Row w' a1 41 14 (ints c) ∧ w'.cell? ⟨a1, 0, none⟩ = some (.int .i64 (c 0)) ∧ w'.cell? ⟨a1, 1, none⟩ = some (.int .i64 (c 1)) ∧ w'.cell? ⟨a1, 2, none⟩ = some (.int .i64 (c 2)) ∧ w'.cell? ⟨a1, 3, none⟩ = some (.int .i64 (c 3)) ∧ w'.cell? ⟨a1, 4, none⟩ = some (.int .i64 (c 4)) ∧ w'.cell? ⟨a1, 5, none⟩ = some (.int .i64 (c 5)) ∧ w'.cell? ⟨a1, 6, none⟩ = some (.int .i64 (c 6)) ∧ w'.cell? ⟨a1, 7, none⟩ = some (.int .i64 (c 7)) ∧ w'.cell? ⟨a1, 8, none⟩ = some (.int .i64 (c 8)) ∧ w'.cell? ⟨a1, 9, none⟩ = some (.int .i64 (c 9)) ∧ w'.cell? ⟨a1, 10, none⟩ = some (.int .i64 (c 10)) ∧ w'.cell? ⟨a1, 11, none⟩ = some (.int .i64 (c 11)) ∧ w'.cell? ⟨a1, 12, none⟩ = some (.int .i64 (c 12)) ∧ w'.cell? ⟨a1, 13, none⟩ = some (.int .i64 (c 13)))) w' → LiesC w' A (flatF opF L)) := Lib.hid (fun w' h => HA.out.keep (by rw [hz]; exact h.1))
  have HBB : Hid (∀ w', (fun w' : World => (Below a1 w w' ∧ Row w' a1 41 14 (ints c) ∧ w'.cell? ⟨a1, 0, none⟩ = some (.int .i64 (c 0)) ∧ w'.cell? ⟨a1, 1, none⟩ = some (.int .i64 (c 1)) ∧ w'.cell? ⟨a1, 2, none⟩ = some (.int .i64 (c 2)) ∧ w'.cell? ⟨a1, 3, none⟩ = some (.int .i64 (c 3)) ∧ w'.cell? ⟨a1, 4, none⟩ = some (.int .i64 (c 4)) ∧ w'.cell? ⟨a1, 5, none⟩ = some (.int .i64 (c 5)) ∧ w'.cell? ⟨a1, 6, none⟩ = some (.int .i64 (c 6)) ∧ w'.cell? ⟨a1, 7, none⟩ = some (.int .i64 (c 7)) ∧ w'.cell? ⟨a1, 8, none⟩ = some (.int .i64 (c 8)) ∧ w'.cell? ⟨a1, 9, none⟩ = some (.int .i64 (c 9)) ∧ w'.cell? ⟨a1, 10, none⟩ = some (.int .i64 (c 10)) ∧ w'.cell? ⟨a1, 11, none⟩ = some (.int .i64 (c 11)) ∧ w'.cell? ⟨a1, 12, none⟩ = some (.int .i64 (c 12)) ∧ w'.cell? ⟨a1, 13, none⟩ = some (.int .i64 (c 13)))) w' → Below a1 w w') := Lib.hid (fun w' h => h.1)
  have HZ := Lib.hid hz
  clear hB hr hst hz
  refine wp_region_noPanic ?_
  refine wp_region_held_drew (S := fun w' => (Below a1 w w' ∧ Row w' a1 41 14 (ints c) ∧ w'.cell? ⟨a1, 0, none⟩ = some (.int .i64 (c 0)) ∧ w'.cell? ⟨a1, 1, none⟩ = some (.int .i64 (c 1)) ∧ w'.cell? ⟨a1, 2, none⟩ = some (.int .i64 (c 2)) ∧ w'.cell? ⟨a1, 3, none⟩ = some (.int .i64 (c 3)) ∧ w'.cell? ⟨a1, 4, none⟩ = some (.int .i64 (c 4)) ∧ w'.cell? ⟨a1, 5, none⟩ = some (.int .i64 (c 5)) ∧ w'.cell? ⟨a1, 6, none⟩ = some (.int .i64 (c 6)) ∧ w'.cell? ⟨a1, 7, none⟩ = some (.int .i64 (c 7)) ∧ w'.cell? ⟨a1, 8, none⟩ = some (.int .i64 (c 8)) ∧ w'.cell? ⟨a1, 9, none⟩ = some (.int .i64 (c 9)) ∧ w'.cell? ⟨a1, 10, none⟩ = some (.int .i64 (c 10)) ∧ w'.cell? ⟨a1, 11, none⟩ = some (.int .i64 (c 11)) ∧ w'.cell? ⟨a1, 12, none⟩ = some (.int .i64 (c 12)) ∧ w'.cell? ⟨a1, 13, none⟩ = some (.int .i64 (c 13)))) (by kernel_rfl) (HST.out) (fun hHeld => ?_)
  (refine wpAnyH_take (i := 0) (v := ?_) rfl (by kernel_rfl) (by kernel_rfl) (by kernel_rfl) (fun _ _ _ h => h) (Or.inl ⟨by rfl, ?_⟩) hHeld ?_; rotate_left; focus (intro w hSw; (try dsimp only at hSw); go_simp; (try with_reducible rfl)))
  try simp only [Act.put, List.getElem_toArray, List.getElem_cons_succ, List.getElem_cons_zero, List.setIfInBounds_toArray, List.set_cons_zero, List.set_cons_succ]
  (refine wpAnyH_take (i := 1) (v := ?_) rfl (by kernel_rfl) (by kernel_rfl) (by kernel_rfl) (fun _ _ _ h => h) (Or.inl ⟨by rfl, ?_⟩) hHeld ?_; rotate_left; focus (intro w hSw; (try dsimp only at hSw); go_simp; (try with_reducible rfl)))
  try simp only [Act.put, List.getElem_toArray, List.getElem_cons_succ, List.getElem_cons_zero, List.setIfInBounds_toArray, List.set_cons_zero, List.set_cons_succ]
  (refine wpAnyH_take (i := 2) (v := ?_) rfl (by kernel_rfl) (by kernel_rfl) (by kernel_rfl) (fun _ _ _ h => h) (Or.inl ⟨by rfl, ?_⟩) hHeld ?_; rotate_left; focus (intro w hSw; (try dsimp only at hSw); go_simp; (try with_reducible rfl)))
  try simp only [Act.put, List.getElem_toArray, List.getElem_cons_succ, List.getElem_cons_zero, List.setIfInBounds_toArray, List.set_cons_zero, List.set_cons_succ]
  (refine wpAnyH_take (i := 4) (v := ?_) rfl (by kernel_rfl) (by kernel_rfl) (by kernel_rfl) (fun _ _ _ h => h) (Or.inl ⟨by rfl, ?_⟩) hHeld ?_; rotate_left; focus (intro w hSw; (try dsimp only at hSw); go_simp; (try with_reducible rfl)))
  try simp only [Act.put, List.getElem_toArray, List.getElem_cons_succ, List.getElem_cons_zero, List.setIfInBounds_toArray, List.set_cons_zero, List.set_cons_succ]
  (refine wpAnyH_take (i := 5) (v := ?_) rfl (by kernel_rfl) (by kernel_rfl) (by kernel_rfl) (fun _ _ _ h => h) (Or.inl ⟨by rfl, ?_⟩) hHeld ?_; rotate_left; focus (intro w hSw; (try dsimp only at hSw); go_simp; (try with_reducible rfl)))
  try simp only [Act.put, List.getElem_toArray, List.getElem_cons_succ, List.getElem_cons_zero, List.setIfInBounds_toArray, List.set_cons_zero, List.set_cons_succ]
  (refine wpAnyH_take (i := 6) (v := ?_) rfl (by kernel_rfl) (by kernel_rfl) (by kernel_rfl) (fun _ _ _ h => h) (Or.inl ⟨by rfl, ?_⟩) hHeld ?_; rotate_left; focus (intro w hSw; (try dsimp only at hSw); go_simp; (try with_reducible rfl)))
  try simp only [Act.put, List.getElem_toArray, List.getElem_cons_succ, List.getElem_cons_zero, List.setIfInBounds_toArray, List.set_cons_zero, List.set_cons_succ]
  (refine wpAnyH_ready (rs := [3]) (by kernel_rfl) (by simp) ?_; refine AllReadyH.cons rfl (fun K hK => ?_) AllReadyH.nil; go_simp; (first | (go_at_call 12; refine (C1.out _ (HLK.out _ hHeld)).mono ?_; rintro t w' ⟨v1, rfl, ⟨A1, c1, rfl, -, -, -, d1, -⟩, -, hb⟩; have HD1 := Lib.hid d1; clear d1) | (go_at_call 13; refine (C2.out _ (HLK.out _ hHeld)).mono ?_; rintro t w' ⟨v2, rfl, ⟨A2, c2, rfl, -, -, -, d2, -⟩, -, hb⟩; have HD2 := Lib.hid d2; replace HD1 := Lib.hid (HD1.out.keep hb); clear d2) | (go_at_call 9; refine (C5.out _ _ _ _ _ HD1.out HD2.out).mono ?_; rintro t w' ⟨rfl, hb⟩; clear HD1 HD2) | (go_at_call 6; refine (C9.out _).mono ?_; rintro t w' ⟨rfl, hb⟩)); (try go_wp2_with fail); refine hK.out _ _ ?_ (fun hHeld' => ?_); (focus (exact hkeep _ _ hb hHeld)); clear hK K; replace hHeld := hHeld'; clear hHeld')
  try simp only [Act.put, List.getElem_toArray, List.getElem_cons_succ, List.getElem_cons_zero, List.setIfInBounds_toArray, List.set_cons_zero, List.set_cons_succ]
  (refine wpAnyH_ready (rs := [7]) (by kernel_rfl) (by simp) ?_; refine AllReadyH.cons rfl (fun K hK => ?_) AllReadyH.nil; go_simp; (first | (go_at_call 12; refine (C1.out _ (HLK.out _ hHeld)).mono ?_; rintro t w' ⟨v1, rfl, ⟨A1, c1, rfl, -, -, -, d1, -⟩, -, hb⟩; have HD1 := Lib.hid d1; clear d1) | (go_at_call 13; refine (C2.out _ (HLK.out _ hHeld)).mono ?_; rintro t w' ⟨v2, rfl, ⟨A2, c2, rfl, -, -, -, d2, -⟩, -, hb⟩; have HD2 := Lib.hid d2; replace HD1 := Lib.hid (HD1.out.keep hb); clear d2) | (go_at_call 9; refine (C5.out _ _ _ _ _ HD1.out HD2.out).mono ?_; rintro t w' ⟨rfl, hb⟩; clear HD1 HD2) | (go_at_call 6; refine (C9.out _).mono ?_; rintro t w' ⟨rfl, hb⟩)); (try go_wp2_with fail); refine hK.out _ _ ?_ (fun hHeld' => ?_); (focus (exact hkeep _ _ hb hHeld)); clear hK K; replace hHeld := hHeld'; clear hHeld')
  try simp only [Act.put, List.getElem_toArray, List.getElem_cons_succ, List.getElem_cons_zero, List.setIfInBounds_toArray, List.set_cons_zero, List.set_cons_succ]
  (refine wpAnyH_ready (rs := [8]) (by kernel_rfl) (by simp) ?_; refine AllReadyH.cons rfl (fun K hK => ?_) AllReadyH.nil; go_simp; (first | (go_at_call 12; refine (C1.out _ (HLK.out _ hHeld)).mono ?_; rintro t w' ⟨v1, rfl, ⟨A1, c1, rfl, -, -, -, d1, -⟩, -, hb⟩; have HD1 := Lib.hid d1; clear d1) | (go_at_call 13; refine (C2.out _ (HLK.out _ hHeld)).mono ?_; rintro t w' ⟨v2, rfl, ⟨A2, c2, rfl, -, -, -, d2, -⟩, -, hb⟩; have HD2 := Lib.hid d2; replace HD1 := Lib.hid (HD1.out.keep hb); clear d2) | (go_at_call 9; refine (C5.out _ _ _ _ _ HD1.out HD2.out).mono ?_; rintro t w' ⟨rfl, hb⟩; clear HD1 HD2) | (go_at_call 6; refine (C9.out _).mono ?_; rintro t w' ⟨rfl, hb⟩)); (try go_wp2_with fail); refine hK.out _ _ ?_ (fun hHeld' => ?_); (focus (exact hkeep _ _ hb hHeld)); clear hK K; replace hHeld := hHeld'; clear hHeld')
  try simp only [Act.put, List.getElem_toArray, List.getElem_cons_succ, List.getElem_cons_zero, List.setIfInBounds_toArray, List.set_cons_zero, List.set_cons_succ]
  (refine wpAnyH_take (i := 9) (v := ?_) rfl (by kernel_rfl) (by kernel_rfl) (by kernel_rfl) (fun _ _ _ h => h) (Or.inl ⟨by rfl, ?_⟩) hHeld ?_; rotate_left; focus (intro w hSw; (try dsimp only at hSw); go_simp; (try with_reducible rfl)))
  try simp only [Act.put, List.getElem_toArray, List.getElem_cons_succ, List.getElem_cons_zero, List.setIfInBounds_toArray, List.set_cons_zero, List.set_cons_succ]
  first | (refine wpAnyH_take (i := 10) rfl (by kernel_rfl) (by kernel_rfl) (by kernel_rfl) (fun _ _ _ h => h) (Or.inr ⟨by rfl, rfl⟩) hHeld ?_) | (refine wpAnyH_ready (rs := [10]) (by kernel_rfl) (by simp) ?_; refine AllReadyH.cons rfl (fun K hK => ?_) AllReadyH.nil; go_simp; (first | (go_at_call 12; refine (C1.out _ (HLK.out _ hHeld)).mono ?_; rintro t w' ⟨v1, rfl, ⟨A1, c1, rfl, -, -, -, d1, -⟩, -, hb⟩; have HD1 := Lib.hid d1; clear d1) | (go_at_call 13; refine (C2.out _ (HLK.out _ hHeld)).mono ?_; rintro t w' ⟨v2, rfl, ⟨A2, c2, rfl, -, -, -, d2, -⟩, -, hb⟩; have HD2 := Lib.hid d2; replace HD1 := Lib.hid (HD1.out.keep hb); clear d2) | (go_at_call 9; refine (C5.out _ _ _ _ _ HD1.out HD2.out).mono ?_; rintro t w' ⟨rfl, hb⟩; clear HD1 HD2) | (go_at_call 6; refine (C9.out _).mono ?_; rintro t w' ⟨rfl, hb⟩)); (try go_wp2_with fail); refine hK.out _ _ ?_ (fun hHeld' => ?_); (focus (exact hkeep _ _ hb hHeld)); clear hK K; replace hHeld := hHeld'; clear hHeld')
  try simp only [Act.put, List.getElem_toArray, List.getElem_cons_succ, List.getElem_cons_zero, List.setIfInBounds_toArray, List.set_cons_zero, List.set_cons_succ]
  (refine wpAnyH_take (i := 11) (v := ?_) rfl (by kernel_rfl) (by kernel_rfl) (by kernel_rfl) (fun _ _ _ h => h) (Or.inl ⟨by rfl, ?_⟩) hHeld ?_; rotate_left; focus (intro w hSw; (try dsimp only at hSw); go_simp; (try with_reducible rfl)))
  try simp only [Act.put, List.getElem_toArray, List.getElem_cons_succ, List.getElem_cons_zero, List.setIfInBounds_toArray, List.set_cons_zero, List.set_cons_succ]
  (refine wpAnyH_take (i := 12) (v := ?_) rfl (by kernel_rfl) (by kernel_rfl) (by kernel_rfl) (fun _ _ _ h => h) (Or.inl ⟨by rfl, ?_⟩) hHeld ?_; rotate_left; focus (intro w hSw; (try dsimp only at hSw); go_simp; (try with_reducible rfl)))
  try simp only [Act.put, List.getElem_toArray, List.getElem_cons_succ, List.getElem_cons_zero, List.setIfInBounds_toArray, List.set_cons_zero, List.set_cons_succ]
  refine wpAnyH_done (by kernel_rfl) ?_ _
  refine NoPanic.normal ?_
  have hb := HBB.out _ hHeld
  have HBF := Lib.hid hb
  clear hb hHeld
  go_wp2_with fail
  go_ret
  exact ⟨rfl, by rw [HZ.out]; exact HBF.out⟩
theorem shareUpTo_walk (A : Option Addr) (d : Nat) (L : List Opr) (hL : L.length ≤ 9223372036854775807) (hk : OkL L) (c : Nat → Int) (hc : Ok64 c) (l : Int) (w : World) (ha : LiesC w A (flatF opF L)) :
    Calls Try.prog 4 #[.slice A L.length d, .agg (rowOf 14 (ints c)), .int .i64 l] w fun e w' => e = .returned (.bool true) ∧ Below w.heap.size w w' := by
  by_cases h : 100 < L.length
  · exact shareUpTo_long A d L h hL c l w
  · exact shareUpTo_short A d L (by omega) hk c hc l w ha
end Go.Proofs.Ytodomchanaaonaa
