/- Statement PlanAll of layer 5, walked. -/
import Derived.Test.YtncemjpfdblecaaPlanLaws
namespace Go.Proofs.Ytncemjpfdblecaa
open Go.ChangeShapes Go.WideShapes Go.ChangeAt Go.RowKit

/-- What the loop over all words keeps. -/
def LA (w : World) (a1 : Nat) (c : Nat → Int) (a : Addr) (g n : Nat) (wr : World) : Prop := Below a1 w wr ∧ Row wr a1 24 14 (ints c) ∧ PlanIs wr a c ∧ Places wr c g n ∧ g < wr.heap.size
def PA (w : World) (a1 : Nat) (c : Nat → Int) (a : Addr) (g n gp : Nat) (y : Nat → Int) (wr : World) : Prop := LA w a1 c a g n wr ∧ Row wr gp 26 4 (ints y)
theorem LA.keep {w : World} {a1 : Nat} {c : Nat → Int} {a : Addr} {g n : Nat} {w1 w2 : World} (h : LA w a1 c a g n w1) (ha : w.heap.size = a1) (hb : Below w1.heap.size w1 w2) : LA w a1 c a g n w2 :=
  ⟨below_on h.1 (Nat.le_of_eq ha.symm) hb, h.2.1.keep hb, h.2.2.1.keep hb, h.2.2.2.1.keep h.2.2.2.2 hb, Nat.lt_of_lt_of_le h.2.2.2.2 hb.size⟩
theorem PA.held {w : World} {a1 : Nat} {c : Nat → Int} {a : Addr} {g n gp k : Nat} {y : Nat → Int} {w' : World} (h : PA w a1 c a g n gp y w') (hk : k < n) (hy : y = plc c k) : PA w a1 c a g n gp y w' ∧ w'.cell? ⟨gp, 0, none⟩ = some (.int .i64 (y 0)) ∧ w'.cell? ⟨gp, 1, none⟩ = some (.int .i64 (y 1)) ∧ w'.cell? ⟨gp, 2, none⟩ = some (.int .i64 (y 2)) ∧ w'.cell? ⟨gp, 3, none⟩ = some (.int .i64 (y 3)) ∧ w'.cell? ⟨g, k * 4, none⟩ = some (.int .i64 (y 0)) ∧ w'.cell? ⟨g, k * 4 + 1, none⟩ = some (.int .i64 (y 1)) ∧ w'.cell? ⟨g, k * 4 + 2, none⟩ = some (.int .i64 (y 2)) ∧ w'.cell? ⟨g, k * 4 + 3, none⟩ = some (.int .i64 (y 3)) := by
  have hp := h.1.2.2.2.1
  subst hy
  refine ⟨h, h.2.cell (i := 0) (by omega), h.2.cell (i := 1) (by omega), h.2.cell (i := 2) (by omega), h.2.cell (i := 3) (by omega), ?_, hp k 1 hk (by omega), hp k 2 hk (by omega), hp k 3 hk (by omega)⟩
  exact hp k 0 hk (by omega)
theorem LA.drew {w : World} {a1 : Nat} {c : Nat → Int} {a : Addr} {g n : Nat} {w1 : World} (h : LA w a1 c a g n w1) (ha : w.heap.size = a1) : LA w a1 c a g n w1.drew := h.keep ha ((Below.refl _ _).drew)

set_option maxRecDepth 100000 in
set_option maxHeartbeats 4000000 in
theorem planAll_walk (c : Nat → Int) (hc : Ok64 c) (w : World) :
    Calls Try.prog 4 #[.agg (rowOf 14 (ints c))] w fun e w' => e = .returned (.bool true) ∧ Below w.heap.size w w' := by
  have f14 := fold14 c
  have M := rMay_any c hc
  cases hm : mayB c
  · have N := Lib.hid (pNew_no c hc hm)
    rw [hm] at M
    have MM := Lib.hid M; clear M
    go_enter Try.func4, Try.ntmps4
    go_upto_region 1 with fail
    generalize hW : World.alloc _ _ = W
    have hr : Row W w.heap.size 24 14 (ints c) := by rw [← hW]; exact Row.new _ _ _ _ _ rfl
    have hB : Below w.heap.size w W := by rw [← hW]; exact (Below.refl _ _).alloc (Nat.le_refl _) _
    clear hW
    generalize hz : w.heap.size = a1 at *
    have HZ := Lib.hid hz; clear hz
    obtain ⟨u0, u1, u2, u3, u4, u5, u6, u7, u8, u9, u10, u11, u12, u13⟩ := conf_cells hr
    go_wp2_with fail
    refine (N.out _).mono ?_; rintro e w1 ⟨rfl, hb⟩
    clear u0 u1 u2 u3 u4 u5 u6 u7 u8 u9 u10 u11 u12 u13
    replace hr := hr.keep hb
    replace hB := below_on hB (Nat.le_of_eq HZ.out.symm) hb
    clear hb
    obtain ⟨u0, u1, u2, u3, u4, u5, u6, u7, u8, u9, u10, u11, u12, u13⟩ := conf_cells hr
    go_wp2_with fail
    refine (MM.out _).mono ?_; rintro e w2 ⟨rfl, hb⟩
    clear u0 u1 u2 u3 u4 u5 u6 u7 u8 u9 u10 u11 u12 u13
    replace hB := below_on hB (Nat.le_of_eq HZ.out.symm) hb
    clear hb
    go_wp2_with fail
    refine (lives5_any _).mono ?_; rintro e w3 ⟨rfl, hb⟩
    replace hB := below_on hB (Nat.le_of_eq HZ.out.symm) hb
    clear hb
    go_wp2_with fail
    go_ret
    exact ⟨rfl, by rw [HZ.out]; exact hB⟩
  · have N := Lib.hid (pNew_yes c hc hm)
    clear M
    have mb := may_bounds hm
    have AL := Lib.hid (rAll_any c mb.1 mb.2.2.2.1 mb.2.2.2.2.1)
    have wb := words_bounds hm
    have e1 : (c 0).toNat * perN c = wordsN c := rfl
    rw [e1] at AL
    have HA := Lib.hid (fun k (h : k < wordsN c) => atN_plc c (wordsN c) k h)
    have cWhat := Lib.hid (fun (k : Nat) (hk : k < wordsN c) a w (h : PlanIs w a c) => show Calls Try.prog 6 #[.pointer (some a), .int .i64 k] w fun e w' => e = .returned (.tuple #[.agg (rowOf 4 (ints (plc c k))), .bool true]) ∧ Below w.heap.size w w' by
      have h2 := pWhat_any a c k (by omega) w h
      rw [show whatP c (k : Int) = plc c k by unfold whatP; rw [if_pos (by omega)]; simp, show whatB c (k : Int) = true by unfold whatB; simp; omega] at h2
      exact h2)
    have cWords := Lib.hid (fun a w (h : PlanIs w a c) => pWords_any a c w h)
    have cAt := Lib.hid (fun (k : Nat) (hk : k < wordsN c) a w (h : PlanIs w a c) => show Calls Try.prog 8 #[.pointer (some a), .agg (rowOf 4 (ints (plc c k)))] w fun e w' => e = .returned (.int .i64 k) ∧ Below w.heap.size w w' by
      have h2 := pAt_any a c (plc c k) (plc_ok c k (by omega)) w h
      rw [atN_plc c _ k hk] at h2
      exact h2)
    generalize wordsN c = n at *
    clear mb e1
    go_enter Try.func4, Try.ntmps4
    go_upto_region 1 with fail
    generalize hW : World.alloc _ _ = W
    have hr : Row W w.heap.size 24 14 (ints c) := by rw [← hW]; exact Row.new _ _ _ _ _ rfl
    have hB : Below w.heap.size w W := by rw [← hW]; exact (Below.refl _ _).alloc (Nat.le_refl _) _
    clear hW
    generalize hz : w.heap.size = a1 at *
    have HZ := Lib.hid hz; clear hz
    obtain ⟨u0, u1, u2, u3, u4, u5, u6, u7, u8, u9, u10, u11, u12, u13⟩ := conf_cells hr
    go_wp2_with fail
    refine (N.out _).mono ?_; rintro e w1 ⟨a, rfl, hp, hb⟩
    clear u0 u1 u2 u3 u4 u5 u6 u7 u8 u9 u10 u11 u12 u13
    replace hr := hr.keep hb
    replace hB := below_on hB (Nat.le_of_eq HZ.out.symm) hb
    clear hb N
    obtain ⟨u0, u1, u2, u3, u4, u5, u6, u7, u8, u9, u10, u11, u12, u13⟩ := conf_cells hr
    go_wp2_with fail
    refine (AL.out _).mono ?_; rintro e w2 ⟨v, rfl, hown, hb⟩
    obtain ⟨g, cap, rfl, hg1, hg2, hq⟩ := places_of_own hown wb.1
    clear u0 u1 u2 u3 u4 u5 u6 u7 u8 u9 u10 u11 u12 u13
    have hL : LA w a1 c a g n w2 := ⟨below_on hB (Nat.le_of_eq HZ.out.symm) hb, hr.keep hb, hp.keep hb, hq, hg2⟩
    clear hb AL hown hr hB hp hq hg1 hg2 f14
    go_wp2_with fail
    go_loopw [6] (fun s wr => ∃ k : Nat, s = .int .i64 k ∧ k ≤ n ∧ LA w a1 c a g n wr) (fun s _ => n - (intOf s).toNat)
    case atStart => exact ⟨0, rfl, by omega, hL⟩
    case round =>
      obtain ⟨k, rfl, hk, hL⟩ := hrel
      by_cases hlt : k < n
      · have cW := Lib.hid (cWhat.out k hlt a)
        have cA := Lib.hid (cAt.out k hlt a)
        have hN : ∀ w, (binOp .neq 41 (.agg (rowOf 4 (ints (plc c k)))) (.agg (rowOf 4 (ints (plc c k))))).run Try.prog w = .ok (.bool false) w := fun w => by
          rw [neq_P, eqI_plc]; simp
        have f4 := fold4 (plc c k)
        have Hy : Hid (∀ y, y = plc c k → y = plc c k) := Lib.hid (fun _ h => h)
        generalize hy : plc c k = y at *
        have HY := Lib.hid hy.symm
        clear hy Hy cWhat cAt HA cWords
        go_wp2_with fail
        refine (cW.out _ hL.2.2.1).mono ?_; rintro e w3 ⟨rfl, hb⟩
        replace hL := hL.keep HZ.out hb
        clear hb
        go_wp2_with (refine wpList_store_row rfl 26 _ _ rfl w3.heap.size (rowOf 4 (ints y)) rfl rfl 26 (rowOf 4 (ints fun _ => 0)) (heap_alloc_new w3 _) (by kernel_rfl) rfl (ints_one _ _) ?_)
        rw [World.setRow_alloc_new]
        generalize hW4 : World.alloc _ _ = w4
        have hP : PA w a1 c a g n w3.heap.size y w4 := ⟨hL.keep HZ.out (by rw [← hW4]; exact (Below.refl _ _).alloc (Nat.le_refl _) _), by rw [← hW4]; exact Row.new _ _ _ _ _ rfl⟩
        clear hL hW4
        generalize w3.heap.size = gp at *
        have hkeep : ∀ w1 w2 : World, Below w1.heap.size w1 w2 → PA w a1 c a g n gp y w1 → PA w a1 c a g n gp y w2 := fun w1 w2 hb h => ⟨h.1.keep HZ.out hb, h.2.keep hb⟩
        have H0 := Lib.hid ((hkeep _ _ ((Below.refl _ _).drew) hP).held (k := k) hlt HY.out)
        clear hP
        have q0 : (0 : Int) ≤ (k : Int) := by omega
        have q1 : (k : Int) < (n : Int) := by omega
        go_upto_region 9 with fail
        refine wp_region_noPanic ?_
        refine wp_region_held_drew (S := fun w' => PA w a1 c a g n gp y w' ∧ w'.cell? ⟨gp, 0, none⟩ = some (.int .i64 (y 0)) ∧ w'.cell? ⟨gp, 1, none⟩ = some (.int .i64 (y 1)) ∧ w'.cell? ⟨gp, 2, none⟩ = some (.int .i64 (y 2)) ∧ w'.cell? ⟨gp, 3, none⟩ = some (.int .i64 (y 3)) ∧ w'.cell? ⟨g, k * 4, none⟩ = some (.int .i64 (y 0)) ∧ w'.cell? ⟨g, k * 4 + 1, none⟩ = some (.int .i64 (y 1)) ∧ w'.cell? ⟨g, k * 4 + 2, none⟩ = some (.int .i64 (y 2)) ∧ w'.cell? ⟨g, k * 4 + 3, none⟩ = some (.int .i64 (y 3))) (by kernel_rfl) (H0.out) (fun hHeld => ?_)
        (refine wpAnyH_take (i := 0) (v := ?_) rfl (by kernel_rfl) (by kernel_rfl) (by kernel_rfl) (fun _ _ _ h => h) (Or.inl ⟨by rfl, ?_⟩) hHeld ?_; rotate_left; focus (intro w hSw; (try dsimp only at hSw); go_simp; (try with_reducible rfl)))
        try simp only [Act.put, List.getElem_toArray, List.getElem_cons_succ, List.getElem_cons_zero, List.setIfInBounds_toArray, List.set_cons_zero, List.set_cons_succ]
        (refine wpAnyH_take (i := 1) (v := ?_) rfl (by kernel_rfl) (by kernel_rfl) (by kernel_rfl) (fun _ _ _ h => h) (Or.inl ⟨by rfl, ?_⟩) hHeld ?_; rotate_left; focus (intro w hSw; (try dsimp only at hSw); go_simp; (try with_reducible rfl)))
        try simp only [Act.put, List.getElem_toArray, List.getElem_cons_succ, List.getElem_cons_zero, List.setIfInBounds_toArray, List.set_cons_zero, List.set_cons_succ]
        (refine wpAnyH_take (i := 2) (v := ?_) rfl (by kernel_rfl) (by kernel_rfl) (by kernel_rfl) (fun _ _ _ h => h) (Or.inl ⟨by rfl, ?_⟩) hHeld ?_; rotate_left; focus (intro w hSw; (try dsimp only at hSw); go_simp; (try with_reducible rfl)))
        try simp only [Act.put, List.getElem_toArray, List.getElem_cons_succ, List.getElem_cons_zero, List.setIfInBounds_toArray, List.set_cons_zero, List.set_cons_succ]
        first | (refine wpAnyH_take (i := 3) rfl (by kernel_rfl) (by kernel_rfl) (by kernel_rfl) (fun _ _ _ h => h) (Or.inr ⟨by rfl, rfl⟩) hHeld ?_) | (refine wpAnyH_take (i := 3) (v := ?_) rfl (by kernel_rfl) (by kernel_rfl) (by kernel_rfl) (fun _ _ _ h => h) (Or.inl ⟨by rfl, ?_⟩) hHeld ?_; rotate_left; focus (intro w hSw; (try dsimp only at hSw); go_simp; (try with_reducible rfl)))
        try simp only [Act.put, List.getElem_toArray, List.getElem_cons_succ, List.getElem_cons_zero, List.setIfInBounds_toArray, List.set_cons_zero, List.set_cons_succ]
        first | (refine wpAnyH_take (i := 4) rfl (by kernel_rfl) (by kernel_rfl) (by kernel_rfl) (fun _ _ _ h => h) (Or.inr ⟨by rfl, rfl⟩) hHeld ?_) | (refine wpAnyH_take (i := 4) (v := ?_) rfl (by kernel_rfl) (by kernel_rfl) (by kernel_rfl) (fun _ _ _ h => h) (Or.inl ⟨by rfl, ?_⟩) hHeld ?_; rotate_left; focus (intro w hSw; (try dsimp only at hSw); go_simp; (try with_reducible rfl)))
        try simp only [Act.put, List.getElem_toArray, List.getElem_cons_succ, List.getElem_cons_zero, List.setIfInBounds_toArray, List.set_cons_zero, List.set_cons_succ]
        first | (refine wpAnyH_take (i := 5) rfl (by kernel_rfl) (by kernel_rfl) (by kernel_rfl) (fun _ _ _ h => h) (Or.inr ⟨by rfl, rfl⟩) hHeld ?_) | (refine wpAnyH_take (i := 5) (v := ?_) rfl (by kernel_rfl) (by kernel_rfl) (by kernel_rfl) (fun _ _ _ h => h) (Or.inl ⟨by rfl, ?_⟩) hHeld ?_; rotate_left; focus (intro w hSw; (try dsimp only at hSw); go_simp; (try with_reducible rfl)))
        try simp only [Act.put, List.getElem_toArray, List.getElem_cons_succ, List.getElem_cons_zero, List.setIfInBounds_toArray, List.set_cons_zero, List.set_cons_succ]
        first | (refine wpAnyH_take (i := 6) rfl (by kernel_rfl) (by kernel_rfl) (by kernel_rfl) (fun _ _ _ h => h) (Or.inr ⟨by rfl, rfl⟩) hHeld ?_) | (refine wpAnyH_take (i := 6) (v := ?_) rfl (by kernel_rfl) (by kernel_rfl) (by kernel_rfl) (fun _ _ _ h => h) (Or.inl ⟨by rfl, ?_⟩) hHeld ?_; rotate_left; focus (intro w hSw; (try dsimp only at hSw); go_simp; (try with_reducible rfl)))
        try simp only [Act.put, List.getElem_toArray, List.getElem_cons_succ, List.getElem_cons_zero, List.setIfInBounds_toArray, List.set_cons_zero, List.set_cons_succ]
        first | (refine wpAnyH_take (i := 7) rfl (by kernel_rfl) (by kernel_rfl) (by kernel_rfl) (fun _ _ _ h => h) (Or.inr ⟨by rfl, rfl⟩) hHeld ?_) | (refine wpAnyH_take (i := 7) (v := ?_) rfl (by kernel_rfl) (by kernel_rfl) (by kernel_rfl) (fun _ _ _ h => h) (Or.inl ⟨by rfl, ?_⟩) hHeld ?_; rotate_left; focus (intro w hSw; (try dsimp only at hSw); go_simp; (try with_reducible rfl)))
        try simp only [Act.put, List.getElem_toArray, List.getElem_cons_succ, List.getElem_cons_zero, List.setIfInBounds_toArray, List.set_cons_zero, List.set_cons_succ]
        first | (refine wpAnyH_take (i := 8) rfl (by kernel_rfl) (by kernel_rfl) (by kernel_rfl) (fun _ _ _ h => h) (Or.inr ⟨by rfl, rfl⟩) hHeld ?_) | (refine wpAnyH_take (i := 8) (v := ?_) rfl (by kernel_rfl) (by kernel_rfl) (by kernel_rfl) (fun _ _ _ h => h) (Or.inl ⟨by rfl, ?_⟩) hHeld ?_; rotate_left; focus (intro w hSw; (try dsimp only at hSw); go_simp; (try with_reducible rfl)))
        try simp only [Act.put, List.getElem_toArray, List.getElem_cons_succ, List.getElem_cons_zero, List.setIfInBounds_toArray, List.set_cons_zero, List.set_cons_succ]
        (refine wpAnyH_take (i := 9) (v := ?_) rfl (by kernel_rfl) (by kernel_rfl) (by kernel_rfl) (fun _ _ _ h => h) (Or.inl ⟨by rfl, ?_⟩) hHeld ?_; rotate_left; focus (intro w hSw; (try dsimp only at hSw); go_simp; (try with_reducible rfl)))
        try simp only [Act.put, List.getElem_toArray, List.getElem_cons_succ, List.getElem_cons_zero, List.setIfInBounds_toArray, List.set_cons_zero, List.set_cons_succ]
        (refine wpAnyH_take (i := 10) (v := ?_) rfl (by kernel_rfl) (by kernel_rfl) (by kernel_rfl) (fun _ _ _ h => h) (Or.inl ⟨by rfl, ?_⟩) hHeld ?_; rotate_left; focus (intro w hSw; (try dsimp only at hSw); go_simp; (try with_reducible rfl)))
        try simp only [Act.put, List.getElem_toArray, List.getElem_cons_succ, List.getElem_cons_zero, List.setIfInBounds_toArray, List.set_cons_zero, List.set_cons_succ]
        first | (refine wpAnyH_take (i := 11) rfl (by kernel_rfl) (by kernel_rfl) (by kernel_rfl) (fun _ _ _ h => h) (Or.inr ⟨by rfl, rfl⟩) hHeld ?_) | (refine wpAnyH_take (i := 11) (v := ?_) rfl (by kernel_rfl) (by kernel_rfl) (by kernel_rfl) (fun _ _ _ h => h) (Or.inl ⟨by rfl, ?_⟩) hHeld ?_; rotate_left; focus (intro w hSw; (try dsimp only at hSw); go_simp; (try with_reducible rfl)))
        try simp only [Act.put, List.getElem_toArray, List.getElem_cons_succ, List.getElem_cons_zero, List.setIfInBounds_toArray, List.set_cons_zero, List.set_cons_succ]
        first | (refine wpAnyH_take (i := 12) rfl (by kernel_rfl) (by kernel_rfl) (by kernel_rfl) (fun _ _ _ h => h) (Or.inr ⟨by rfl, rfl⟩) hHeld ?_) | (refine wpAnyH_take (i := 12) (v := ?_) rfl (by kernel_rfl) (by kernel_rfl) (by kernel_rfl) (fun _ _ _ h => h) (Or.inl ⟨by rfl, ?_⟩) hHeld ?_; rotate_left; focus (intro w hSw; (try dsimp only at hSw); go_simp; (try with_reducible rfl)))
        try simp only [Act.put, List.getElem_toArray, List.getElem_cons_succ, List.getElem_cons_zero, List.setIfInBounds_toArray, List.set_cons_zero, List.set_cons_succ]
        first | (refine wpAnyH_take (i := 14) rfl (by kernel_rfl) (by kernel_rfl) (by kernel_rfl) (fun _ _ _ h => h) (Or.inr ⟨by rfl, rfl⟩) hHeld ?_) | (refine wpAnyH_take (i := 14) (v := ?_) rfl (by kernel_rfl) (by kernel_rfl) (by kernel_rfl) (fun _ _ _ h => h) (Or.inl ⟨by rfl, ?_⟩) hHeld ?_; rotate_left; focus (intro w hSw; (try dsimp only at hSw); go_simp; (try with_reducible rfl)))
        try simp only [Act.put, List.getElem_toArray, List.getElem_cons_succ, List.getElem_cons_zero, List.setIfInBounds_toArray, List.set_cons_zero, List.set_cons_succ]
        first | (refine wpAnyH_take (i := 13) rfl (by kernel_rfl) (by kernel_rfl) (by kernel_rfl) (fun _ _ _ h => h) (Or.inr ⟨by rfl, rfl⟩) hHeld ?_) | (refine wpAnyH_ready (rs := [13]) (by kernel_rfl) (by simp) ?_; refine AllReadyH.cons rfl (fun K hK => ?_) AllReadyH.nil; go_simp; (go_at_call 8; refine (cA.out _ hHeld.1.1.2.2.1).mono ?_; rintro e w' ⟨rfl, hb⟩); (try go_wp2_with fail); refine hK.out _ _ ?_ (fun hHeld' => ?_); (focus (exact (hkeep _ _ hb hHeld.1).held (k := k) hlt HY.out)); clear hK K; replace hHeld := hHeld'; clear hHeld')
        try simp only [Act.put, List.getElem_toArray, List.getElem_cons_succ, List.getElem_cons_zero, List.setIfInBounds_toArray, List.set_cons_zero, List.set_cons_succ]
        first | (refine wpAnyH_take (i := 15) rfl (by kernel_rfl) (by kernel_rfl) (by kernel_rfl) (fun _ _ _ h => h) (Or.inr ⟨by rfl, rfl⟩) hHeld ?_) | (refine wpAnyH_take (i := 15) (v := ?_) rfl (by kernel_rfl) (by kernel_rfl) (by kernel_rfl) (fun _ _ _ h => h) (Or.inl ⟨by rfl, ?_⟩) hHeld ?_; rotate_left; focus (intro w hSw; (try dsimp only at hSw); go_simp; (try with_reducible rfl)))
        try simp only [Act.put, List.getElem_toArray, List.getElem_cons_succ, List.getElem_cons_zero, List.setIfInBounds_toArray, List.set_cons_zero, List.set_cons_succ]
        (refine wpAnyH_take (i := 16) (v := ?_) rfl (by kernel_rfl) (by kernel_rfl) (by kernel_rfl) (fun _ _ _ h => h) (Or.inl ⟨by rfl, ?_⟩) hHeld ?_; rotate_left; focus (intro w hSw; (try dsimp only at hSw); go_simp; (try with_reducible rfl)))
        try simp only [Act.put, List.getElem_toArray, List.getElem_cons_succ, List.getElem_cons_zero, List.setIfInBounds_toArray, List.set_cons_zero, List.set_cons_succ]
        refine wpAnyH_done (by kernel_rfl) ?_ _
        refine NoPanic.normal ?_
        have hF := hHeld.1.1
        clear hHeld H0 hkeep hN f4
        go_wp2_with fail
        go_roundw
        case rel => exact ⟨k + 1, by go_num, by omega, hF⟩
        case measure => simp [intOf]; omega
      · obtain rfl : k = n := by omega
        have hne : ((k : Int) == (k : Int)) = true := by simp
        go_wp2_with fail
        refine (cWords.out _ _ hL.2.2.1).mono ?_; rintro e w3 ⟨rfl, hb⟩
        replace hL := hL.keep HZ.out hb
        clear hb
        go_wp2_with fail
        refine (lives5_any _).mono ?_; rintro e w4 ⟨rfl, hb⟩
        replace hL := hL.keep HZ.out hb
        clear hb
        go_wp2_with fail
        go_ret
        exact ⟨rfl, by rw [HZ.out]; exact hL.1⟩
end Go.Proofs.Ytncemjpfdblecaa
