/- Which kind a word is of, and where a place is, as a plan answers it. -/
import Derived.Test.YtncemjpfdblecaaPlanKind
namespace Go.Proofs.Ytncemjpfdblecaa
open Go.ChangeShapes Go.WideShapes Go.ChangeAt Go.RowKit

theorem wWords (c : Nat → Int) : wordsN c = (c 0).toNat * perN c := rfl
theorem part_at {w : World} {g : Nat} {c : Nat → Int} (h : Row w g 49 55 (ints (planN c))) (k : Nat) (hk : k < 10) :
    w.cell? ⟨g, 14 + k * 4, none⟩ = some (.int .i64 (atK c k)) ∧ w.cell? ⟨g, 14 + k * 4 + 1, none⟩ = some (.int .i64 (firstK k)) ∧ w.cell? ⟨g, 14 + k * 4 + 2, none⟩ = some (.int .i64 (countK c k)) ∧ w.cell? ⟨g, 14 + k * 4 + 3, none⟩ = some (.int .i64 (eachK k)) := by
  refine ⟨?_, ?_, ?_, ?_⟩
  · rw [h.cell (i := 14 + k * 4) (by omega)]; unfold ints; rw [show 14 + k * 4 = 14 + k * 4 + 0 from rfl, planN_part c k 0 hk (by omega)]; rfl
  · rw [h.cell (i := 14 + k * 4 + 1) (by omega)]; unfold ints; rw [planN_part c k 1 hk (by omega)]; rfl
  · rw [h.cell (i := 14 + k * 4 + 2) (by omega)]; unfold ints; rw [planN_part c k 2 hk (by omega)]; rfl
  · rw [h.cell (i := 14 + k * 4 + 3) (by omega)]; unfold ints; rw [planN_part c k 3 hk (by omega)]; rfl

theorem atK_mono {c : Nat → Int} (b10 : 2 ≤ c 10 ∧ c 10 ≤ 60) (b11 : 1 ≤ c 11 ∧ c 11 ≤ 40) (i j : Nat) (h : i ≤ j) (hj : j ≤ 10) : atK c i ≤ atK c j := by
  induction j with
  | zero => obtain rfl : i = 0 := by omega
            exact Int.le_refl _
  | succ j ih =>
    rcases Nat.lt_or_ge j i with h2 | h2
    · obtain rfl : i = j + 1 := by omega
      exact Int.le_refl _
    · have := ih h2 (by omega)
      rw [atK_succ c j (by omega)]
      have := (countK_each c j b10 b11).1
      omega

set_option maxRecDepth 100000 in
theorem pKind_any (a : Addr) (c : Nat → Int) (r k : Nat) (w : World) (h : PlanIs w a c) (hk : k < 10) (h1 : atK c k ≤ (r : Int)) (h2 : (r : Int) < atK c (k + 1)) :
    Calls Try.prog 16 #[.pointer (some a), .int .i64 (r : Int)] w fun e w' => e = .returned (.int .i64 (k : Int)) ∧ w = w' := by
  rw [h.at_]
  have hr := Lib.hid h.2.2.2.2
  have hm := h.1
  obtain ⟨-, -, -, b10, b11, -⟩ := may_bounds hm
  generalize a.block = g at *
  have hrb : (r : Int) < 1000 := by
    have := atK_bounds c (k + 1) b10 b11; omega
  have hmono : Hid (∀ j, j < 10 → atK c j ≤ (r : Int) → k ≤ j → j = k) := Lib.hid (fun j hj hl hkj => Nat.le_antisymm (Nat.le_of_not_lt fun hlt => by have := atK_mono b10 b11 (k + 1) j hlt (by omega); omega) hkj)
  clear h
  go_enter Try.func16, Try.ntmps16
  go_wp2_with fail
  go_loop [5] (fun i => ∃ j : Nat, i = .int .i64 j ∧ j < 10 ∧ k ≤ j) (fun i => (intOf i).toNat)
  case atStart => exact ⟨9, rfl, by omega, by omega⟩
  case round =>
    obtain ⟨j, rfl, hj, hkj⟩ := hrel
    have q0 : (0 : Int) ≤ (j : Int) := by omega
    have q1 : (j : Int) < 10 := by omega
    have v1 := (part_at hr.out j hj).1
    have ab := atK_bounds c j b10 b11
    by_cases hle : atK c j ≤ (r : Int)
    · obtain rfl := hmono.out j hj hle hkj
      generalize atK c j = s at *
      go_wp2_with fail
      go_ret
      exact ⟨rfl, rfl⟩
    · have hne : k ≠ j := fun e => by subst e; exact hle h1
      have h0 : j ≠ 0 := by omega
      generalize atK c j = s at *
      go_wp2_with fail
      go_round
      case rel => exact ⟨j - 1, by go_num, by omega, by omega⟩
      case measure => simp [intOf]; omega

theorem pAt_nil (x : Nat → Int) (w : World) : Calls Try.prog 8 #[.pointer none, .agg (rowOf 4 (ints x))] w fun e w' => e = .returned (.int .i64 (-1)) ∧ Below w.heap.size w w' := by
  go_enter Try.func8, Try.ntmps8
  go_upto_region 1 with fail
  generalize hW : World.alloc _ _ = W
  have hB : Below w.heap.size w W := by rw [← hW]; exact (Below.refl _ _).alloc (Nat.le_refl _) _
  clear hW
  generalize hz : w.heap.size = a1 at *
  have HZ := Lib.hid hz; clear hz
  go_quiet (fail)
  go_wp2_with fail
  go_ret
  exact ⟨rfl, by rw [HZ.out]; exact below_drewN hB _⟩

set_option maxRecDepth 100000 in
set_option maxHeartbeats 4000000 in
theorem pAt_any (a : Addr) (c : Nat → Int) (x : Nat → Int) (hx : Ok64 x) (w : World) (h : PlanIs w a c) : Calls Try.prog 8 #[.pointer (some a), .agg (rowOf 4 (ints x))] w fun e w' => e = .returned (.int .i64 (atN c (wordsN c) x)) ∧ Below w.heap.size w w' := by
  rw [h.at_]
  have hr := h.2.2.2.2
  have hm := h.1
  obtain ⟨⟨c0, c0'⟩, -, -, b10, b11, -⟩ := may_bounds hm
  have hg := hr.lt
  generalize a.block = g at *
  clear h
  have HN := Lib.hid (at_none hm x)
  have HY := Lib.hid (at_some hm x)
  generalize hres : atN c (wordsN c) x = res at *
  clear hres
  have f4 := fold4p x
  have hx0 := hx 0; have hx1 := hx 1; have hx2 := hx 2; have hx3 := hx 3
  have cB := Lib.hid pBelow_any
  go_enter Try.func8, Try.ntmps8
  go_upto_region 1 with fail
  generalize hW : World.alloc _ _ = W
  have hq : Row W w.heap.size 26 4 (ints x) := by rw [← hW]; exact Row.new _ _ _ _ _ rfl
  have hB : Below w.heap.size w W := by rw [← hW]; exact (Below.refl _ _).alloc (Nat.le_refl _) _
  replace hr : Row W g 49 55 (ints (planN c)) := hr.keep hB
  clear hW
  generalize hz : w.heap.size = a1 at *
  have HZ := Lib.hid hz; clear hz
  have haW := hq.lt
  have y0 : W.cell? ⟨a1, 0, none⟩ = some (.int .i64 (x 0)) := hq.cell (i := 0) (by omega)
  have y1 : W.cell? ⟨a1, 1, none⟩ = some (.int .i64 (x 1)) := hq.cell (i := 1) (by omega)
  have y2 : W.cell? ⟨a1, 2, none⟩ = some (.int .i64 (x 2)) := hq.cell (i := 2) (by omega)
  have y3 : W.cell? ⟨a1, 3, none⟩ = some (.int .i64 (x 3)) := hq.cell (i := 3) (by omega)
  have z0 : W.cell? ⟨g, 0, none⟩ = some (.int .i64 (c 0)) := by rw [hr.cell (i := 0) (by omega)]; unfold ints; rw [planN_conf c 0 (by omega)]
  have z1 : W.cell? ⟨g, 54, none⟩ = some (.int .i64 (planN c 54)) := hr.cell (i := 54) (by omega)
  have HR := Lib.hid hr; have HB := Lib.hid hB
  clear hr hB hq
  have h0 := @belowB_iff (x 0) (c 0)
  have h1 := @belowB_iff (x 1) 10
  cases hb0 : belowB (x 0) (c 0)
  · rw [hb0] at h0
    have hres := Lib.hid (HN.out fun k _ _ hp => by have := h0.2 hp.1; cases this)
    have B0 := cB.out (x 0) (c 0)
    rw [hb0] at B0
    have CB0 := Lib.hid B0
    clear B0 h0 h1 HN HY cB
    go_quiet ((go_at_call 15; exact Calls.quiet_of_same (quiet_eq (CB0.out _))))
    go_wp2_with fail
    go_ret
    exact ⟨retI (by rw [hres.out]), by rw [HZ.out]; exact below_drewN HB.out _⟩
  have B0 := cB.out (x 0) (c 0)
  rw [hb0] at B0
  have CB0 := Lib.hid B0
  have hl := h0.1 hb0
  cases hb1 : belowB (x 1) 10
  · rw [hb1] at h1
    have hres := Lib.hid (HN.out fun k hk he hp => by have := h1.2 ⟨by omega, by omega⟩; cases this)
    have B1 := cB.out (x 1) 10
    rw [hb1] at B1
    have CB1 := Lib.hid B1
    clear B0 B1 h0 h1 HN HY cB
    go_quiet (first | (go_at_call 15; with_reducible exact Calls.quiet_of_same (quiet_eq (CB0.out _))) | (go_at_call 15; with_reducible exact Calls.quiet_of_same (quiet_eq (CB1.out _))))
    go_wp2_with fail
    go_ret
    exact ⟨retI (by rw [hres.out]), by rw [HZ.out]; exact below_drewN HB.out _⟩
  have hk := h1.1 hb1
  have B1 := cB.out (x 1) 10
  rw [hb1] at B1
  obtain ⟨k, hxk⟩ := Int.eq_ofNat_of_zero_le hk.1
  replace HN := Lib.hid (fun (hp : ¬ isPlc c x k) => HN.out fun k' hk' he hp' => hp ((show k = k' by omega) ▸ hp'))
  replace HY := Lib.hid (HY.out k (by omega) hxk)
  have CB1 := Lib.hid B1
  clear B0 B1 h0 h1 hb0 hb1
  rw [hxk] at y1 CB1 hk f4
  go_quiet (first | (go_at_call 15; with_reducible exact Calls.quiet_of_same (quiet_eq (CB0.out _))) | (go_at_call 15; with_reducible exact Calls.quiet_of_same (quiet_eq (CB1.out _))))
  obtain ⟨v0, v1, v2, v3⟩ := part_at HR.out k (by omega)
  have q0 : (0 : Int) ≤ (k : Int) := hk.1
  have q1 : (k : Int) < 10 := hk.2
  have hsz := atK_bounds c k b10 b11
  have hcb := countK_bounds c k b10 b11
  have he2 := eachK_two k
  have hfx : firstK k = 0 ∨ firstK k = 1 := by unfold firstK; split; exact Or.inl rfl; exact Or.inr rfl
  have hps : 31 ≤ planN c 54 ∧ planN c 54 ≤ 418 := by rw [planN_size]; omega
  unfold isPlc at HN HY
  generalize atK c k = s at *
  generalize firstK k = f at *
  generalize countK c k = m at *
  generalize eachK k = e at *
  generalize planN c 54 = ps at *
  go_upto_region 3 with fail
  generalize hW1 : World.drewN _ _ = W1
  replace HB : Hid (Below a1 w W1) := Lib.hid (by rw [← hW1]; exact below_drewN HB.out _)
  replace v0 : W1.cell? ⟨g, 14 + k * 4, none⟩ = some (.int .i64 s) := by rw [← hW1]; exact v0
  replace v1 : W1.cell? ⟨g, 14 + k * 4 + 1, none⟩ = some (.int .i64 f) := by rw [← hW1]; exact v1
  replace v2 : W1.cell? ⟨g, 14 + k * 4 + 2, none⟩ = some (.int .i64 m) := by rw [← hW1]; exact v2
  replace v3 : W1.cell? ⟨g, 14 + k * 4 + 3, none⟩ = some (.int .i64 e) := by rw [← hW1]; exact v3
  replace y0 : W1.cell? ⟨a1, 0, none⟩ = some (.int .i64 (x 0)) := by rw [← hW1]; exact y0
  replace y1 : W1.cell? ⟨a1, 1, none⟩ = some (.int .i64 (k : Int)) := by rw [← hW1]; exact y1
  replace y2 : W1.cell? ⟨a1, 2, none⟩ = some (.int .i64 (x 2)) := by rw [← hW1]; exact y2
  replace y3 : W1.cell? ⟨a1, 3, none⟩ = some (.int .i64 (x 3)) := by rw [← hW1]; exact y3
  replace z1 : W1.cell? ⟨g, 54, none⟩ = some (.int .i64 ps) := by rw [← hW1]; exact z1
  have ha1 : a1 < W1.heap.size := by rw [← hW1]; exact haW
  clear hW1 z0 HR
  have hg1 : g < W1.heap.size := by omega
  have hfar : ∀ b i, b < W1.heap.size → (W1.alloc (.cells #[.int .i64 0, .int .i64 0, .int .i64 0, .int .i64 0] 46)).cell? ⟨b, i, none⟩ = W1.cell? ⟨b, i, none⟩ := fun b i hb => ((Below.refl W1.heap.size W1).alloc (Nat.le_refl _) _).cell hb
  have p0 := (hfar g (14 + k * 4) hg1).trans v0
  have p1 := (hfar g (14 + k * 4 + 1) hg1).trans v1
  have p2 := (hfar g (14 + k * 4 + 2) hg1).trans v2
  have p3 := (hfar g (14 + k * 4 + 3) hg1).trans v3
  have p4 := (hfar a1 (1) ha1).trans y1
  clear hfar
  go_region
  clear p0 p1 p2 p3 p4 v0 v1 v2 v3
  generalize hW2 : World.drew _ = W2
  have hr2 : Row W2 W1.heap.size 46 4 (ints fun j => if j = 0 then s else if j = 1 then f else if j = 2 then m else e) := by rw [← hW2]; exact (Row.new W1 #[.int .i64 s, .int .i64 f, .int .i64 m, .int .i64 e] _ (ints fun j => if j = 0 then s else if j = 1 then f else if j = 2 then m else e) 4 rfl).drew
  have hb2 : Below W1.heap.size W1 W2 := by rw [← hW2]; exact ((Below.refl _ _).alloc (Nat.le_refl _) _).drew
  clear hW2
  have HB2 := Lib.hid (HB.out.trans (hb2.mono (Nat.le_of_lt ha1)))
  replace y0 := (hb2.cell (p := ⟨a1, 0, none⟩) ha1).trans y0
  replace y2 := (hb2.cell (p := ⟨a1, 2, none⟩) ha1).trans y2
  replace y3 := (hb2.cell (p := ⟨a1, 3, none⟩) ha1).trans y3
  replace z1 := (hb2.cell (p := ⟨g, 54, none⟩) hg1).trans z1
  have v0 : W2.cell? ⟨W1.heap.size, 0, none⟩ = some (.int .i64 s) := hr2.cell (i := 0) (by omega)
  have v1 : W2.cell? ⟨W1.heap.size, 1, none⟩ = some (.int .i64 f) := hr2.cell (i := 1) (by omega)
  have v2 : W2.cell? ⟨W1.heap.size, 2, none⟩ = some (.int .i64 m) := hr2.cell (i := 2) (by omega)
  have v3 : W2.cell? ⟨W1.heap.size, 3, none⟩ = some (.int .i64 e) := hr2.cell (i := 3) (by omega)
  clear hr2 hb2 HB y1
  generalize W1.heap.size = a2 at *
  clear f4 CB0 CB1 q0 q1 hk
  have hi : Hid (belowB (wrap64 (x 2 - f)) m = (decide (0 ≤ x 2 - f) && decide (x 2 - f < m))) := Lib.hid (by
    unfold belowB wrap64
    rw [Bool.eq_iff_iff]
    simp
    omega)
  have hiv2 : Hid (0 ≤ x 2 - f → wrap64 (x 2 - f) = x 2 - f) := Lib.hid (fun h => by unfold wrap64; omega)
  have hivb : -9223372036854775808 ≤ wrap64 (x 2 - f) ∧ wrap64 (x 2 - f) ≤ 9223372036854775807 := by unfold wrap64; omega
  go_upto_region 5 with fail
  generalize wrap64 (x 2 - f) = iv at *
  have C1 := cB.out iv m
  have C2 := cB.out (x 3) e
  cases hb1 : belowB iv m
  · rw [hb1] at C1 hi
    have CC1 := Lib.hid C1
    have hres := Lib.hid (HN.out (fun hp => by
      have h1 := hi.out
      rw [decide_eq_true hp.2.1.1, decide_eq_true hp.2.1.2] at h1
      cases h1))
    clear C1 C2 hi HN HY cB hiv2 hb1 v0
    go_wp2_with (first | (go_at_call 15; refine (CC1.out _).mono ?_; rintro e w' ⟨rfl, rfl⟩))
    go_ret
    exact ⟨retI (by rw [hres.out]), by rw [HZ.out]; exact HB2.out⟩
  rw [hb1] at C1 hi
  have hip : 0 ≤ x 2 - f ∧ x 2 - f < m := by simpa using hi.out.symm
  obtain rfl : iv = x 2 - f := hiv2.out hip.1
  have h3 := @belowB_iff (x 3) e
  cases hb2 : belowB (x 3) e
  · rw [hb2] at C2 h3
    have CC1 := Lib.hid C1
    have CC2 := Lib.hid C2
    have hres := Lib.hid (HN.out (fun hp => by have := h3.2 hp.2.2; cases this))
    clear C1 C2 hi HN HY cB hiv2 hb1 hb2 v0 h3
    go_wp2_with (first | (go_at_call 15; with_reducible refine (CC1.out _).mono ?_; rintro e w' ⟨rfl, rfl⟩) | (go_at_call 15; with_reducible refine (CC2.out _).mono ?_; rintro e w' ⟨rfl, rfl⟩))
    go_ret
    exact ⟨retI (by rw [hres.out]), by rw [HZ.out]; exact HB2.out⟩
  rw [hb2] at C2 h3
  have h3p := h3.1 rfl
  have CC1 := Lib.hid C1
  have CC2 := Lib.hid C2
  have hres := Lib.hid (HY.out ⟨hl, hip, h3p⟩)
  have hprod : 0 ≤ x 0 * ps ∧ x 0 * ps ≤ 1672 := by
    have h1 := Int.mul_nonneg hl.1 (show 0 ≤ ps by omega)
    have h2 := Int.mul_le_mul (show x 0 ≤ 4 by omega) hps.2 (by omega) (by omega)
    omega
  clear C1 C2 hi HN HY cB hiv2 hb1 hb2 h3
  rcases he2 with rfl | rfl
  · go_wp2_with (first | (go_at_call 15; with_reducible refine (CC1.out _).mono ?_; rintro e w' ⟨rfl, rfl⟩) | (go_at_call 15; with_reducible refine (CC2.out _).mono ?_; rintro e w' ⟨rfl, rfl⟩))
    go_quiet (fail)
    go_wp2_with fail
    go_ret
    exact ⟨retI (by rw [hres.out]; omega), by rw [HZ.out]; exact below_drewN HB2.out _⟩
  · go_wp2_with (first | (go_at_call 15; with_reducible refine (CC1.out _).mono ?_; rintro e w' ⟨rfl, rfl⟩) | (go_at_call 15; with_reducible refine (CC2.out _).mono ?_; rintro e w' ⟨rfl, rfl⟩))
    go_quiet (fail)
    go_wp2_with fail
    go_ret
    exact ⟨retI (by rw [hres.out]), by rw [HZ.out]; exact below_drewN HB2.out _⟩
end Go.Proofs.Ytncemjpfdblecaa
