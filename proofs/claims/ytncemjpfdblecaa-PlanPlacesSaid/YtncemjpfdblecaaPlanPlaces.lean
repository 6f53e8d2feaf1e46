/- Statement PlanPlaces of layer 5, walked. -/
import Derived.Test.YtncemjpfdblecaaPlanApart
namespace Go.Proofs.Ytncemjpfdblecaa
open Go.ChangeShapes Go.WideShapes Go.ChangeAt Go.RowKit

theorem neq_conf5 (c : Nat → Int) (w : World) : (binOp .neq 24 (.agg (rowOf 14 (ints c))) (.agg (rowOf 14 (ints c)))).run Try.prog w = .ok (.bool false) w := by
  have hA : (Op.equalIn 9999 22 (.agg (rowOf 8 (ints fun i => c (2 + i)))) (.agg (rowOf 8 (ints fun i => c (2 + i))))).run Try.prog w = .ok true w := by
    rw [run_equalIn_ints w 9997 _ _ 8 Try.underlying22 Try.underlying3 (fun _ => by kernel_rfl)]
    simp [eqI]
  have hI : ∀ z : Int, (Op.equalIn 9999 3 (.int .i64 z) (.int .i64 z)).run Try.prog w = .ok true w := fun z => by
    rw [run_equalIn_int w 9998 _ .i64 .i64 z z Try.underlying3]; simp
  have e8 : (rowOf 14 (ints c)).extract 2 10 = rowOf 8 (ints fun i => c (2 + i)) := rfl
  have p1 : ∀ i, i < 14 → (part 3 (rowOf 14 (ints c)) i).run Try.prog w = .ok (.int .i64 (c i)) w := fun i hi => by
    have := rowOf_get (ints c) hi
    simp [part, isAgg, run_underlying Try.underlying3, this, ints]
  have p8 : (part 22 (rowOf 14 (ints c)) 2).run Try.prog w = .ok (.agg (rowOf 8 (ints fun i => c (2 + i)))) w := by
    have hs : (sizeOf 22).run Try.prog w = .ok 8 w := by kernel_rfl
    simp only [part, isAgg, Sem.run_bind, run_underlying Try.underlying22, Result.andThen_ok, Sem.run_pure, if_true, hs, e8]
  have hht : Try.prog.underlying 24 = some (.struct (Try.prog.fieldsOf 24)) := by simp only [Program.fieldsOf, Try.underlying24]
  rw [run_neq_struct, run_equalIn_agg w 9999 _ _ _ hht (by kernel_rfl)]
  simp only [Program.fieldsOf, Try.underlying24, Op.eqFields, Sem.run_ite, Sem.run_bind, p1 _ (show 0 < 14 by omega), p1 _ (show 1 < 14 by omega), p1 _ (show 10 < 14 by omega), p1 _ (show 11 < 14 by omega), p1 _ (show 12 < 14 by omega), p1 _ (show 13 < 14 by omega), p8, Result.andThen_ok, hI, hA]
  simp

def LC (w : World) (a1 a2 : Nat) (c x : Nat → Int) (wr : World) : Prop := Below a1 w wr ∧ Row wr a1 24 14 (ints c) ∧ Row wr a2 26 4 (ints x)
theorem LC.keep {w : World} {a1 a2 : Nat} {c x : Nat → Int} {w1 w2 : World} (h : LC w a1 a2 c x w1) (ha : w.heap.size = a1) (hb : Below w1.heap.size w1 w2) : LC w a1 a2 c x w2 := ⟨below_on h.1 (Nat.le_of_eq ha.symm) hb, h.2.1.keep hb, h.2.2.keep hb⟩
def LD (w : World) (a1 a2 : Nat) (c x : Nat → Int) (p : Addr) (g n : Nat) (wr : World) : Prop := LC w a1 a2 c x wr ∧ PlanIs wr p c ∧ Places wr c g n ∧ g < wr.heap.size
theorem LD.keep {w : World} {a1 a2 : Nat} {c x : Nat → Int} {p : Addr} {g n : Nat} {w1 w2 : World} (h : LD w a1 a2 c x p g n w1) (ha : w.heap.size = a1) (hb : Below w1.heap.size w1 w2) : LD w a1 a2 c x p g n w2 :=
  ⟨h.1.keep ha hb, h.2.1.keep hb, h.2.2.1.keep h.2.2.2 hb, Nat.lt_of_lt_of_le h.2.2.2 hb.size⟩
theorem LD.held {w : World} {a1 a2 : Nat} {c x : Nat → Int} {p : Addr} {g n : Nat} {w' : World} (h : LD w a1 a2 c x p g n w') : LD w a1 a2 c x p g n w' ∧ w'.cell? ⟨a1, 0, none⟩ = some (.int .i64 (c 0)) ∧ w'.cell? ⟨a1, 1, none⟩ = some (.int .i64 (c 1)) ∧ w'.cell? ⟨a1, 2, none⟩ = some (.int .i64 (c 2)) ∧ w'.cell? ⟨a1, 3, none⟩ = some (.int .i64 (c 3)) ∧ w'.cell? ⟨a1, 4, none⟩ = some (.int .i64 (c 4)) ∧ w'.cell? ⟨a1, 5, none⟩ = some (.int .i64 (c 5)) ∧ w'.cell? ⟨a1, 6, none⟩ = some (.int .i64 (c 6)) ∧ w'.cell? ⟨a1, 7, none⟩ = some (.int .i64 (c 7)) ∧ w'.cell? ⟨a1, 8, none⟩ = some (.int .i64 (c 8)) ∧ w'.cell? ⟨a1, 9, none⟩ = some (.int .i64 (c 9)) ∧ w'.cell? ⟨a1, 10, none⟩ = some (.int .i64 (c 10)) ∧ w'.cell? ⟨a1, 11, none⟩ = some (.int .i64 (c 11)) ∧ w'.cell? ⟨a1, 12, none⟩ = some (.int .i64 (c 12)) ∧ w'.cell? ⟨a1, 13, none⟩ = some (.int .i64 (c 13)) ∧ w'.cell? ⟨a2, 0, none⟩ = some (.int .i64 (x 0)) ∧ w'.cell? ⟨a2, 1, none⟩ = some (.int .i64 (x 1)) ∧ w'.cell? ⟨a2, 2, none⟩ = some (.int .i64 (x 2)) ∧ w'.cell? ⟨a2, 3, none⟩ = some (.int .i64 (x 3)) := by
  obtain ⟨u0, u1, u2, u3, u4, u5, u6, u7, u8, u9, u10, u11, u12, u13⟩ := conf_cells h.1.2.1
  exact ⟨h, u0, u1, u2, u3, u4, u5, u6, u7, u8, u9, u10, u11, u12, u13, h.1.2.2.cell (i := 0) (by omega), h.1.2.2.cell (i := 1) (by omega), h.1.2.2.cell (i := 2) (by omega), h.1.2.2.cell (i := 3) (by omega)⟩

theorem LD.held14 {w : World} {a1 a2 : Nat} {c x : Nat → Int} {p : Addr} {g n g13 i : Nat} {y : Nat → Int} {w' : World} (h : LD w a1 a2 c x p g n w') (hy : Row w' g13 26 4 (ints y)) (hi : i < n) (he : y = plc c i) : (LD w a1 a2 c x p g n w' ∧ Row w' g13 26 4 (ints y)) ∧ w'.cell? ⟨g13, 0, none⟩ = some (.int .i64 (y 0)) ∧ w'.cell? ⟨g13, 1, none⟩ = some (.int .i64 (y 1)) ∧ w'.cell? ⟨g13, 2, none⟩ = some (.int .i64 (y 2)) ∧ w'.cell? ⟨g13, 3, none⟩ = some (.int .i64 (y 3)) ∧ w'.cell? ⟨g, i * 4, none⟩ = some (.int .i64 (y 0)) ∧ w'.cell? ⟨g, i * 4 + 1, none⟩ = some (.int .i64 (y 1)) ∧ w'.cell? ⟨g, i * 4 + 2, none⟩ = some (.int .i64 (y 2)) ∧ w'.cell? ⟨g, i * 4 + 3, none⟩ = some (.int .i64 (y 3)) := by
  subst he
  refine ⟨⟨h, hy⟩, hy.cell (i := 0) (by omega), hy.cell (i := 1) (by omega), hy.cell (i := 2) (by omega), hy.cell (i := 3) (by omega), ?_, h.2.2.1 i 1 hi (by omega), h.2.2.1 i 2 hi (by omega), h.2.2.1 i 3 hi (by omega)⟩
  exact h.2.2.1 i 0 hi (by omega)
set_option maxRecDepth 100000 in
set_option maxHeartbeats 8000000 in
theorem planPlaces_walk (c : Nat → Int) (hc : Ok64 c) (x : Nat → Int) (hx : Ok64 x) (a : Int) (ha : -9223372036854775808 ≤ a ∧ a ≤ 9223372036854775807) (w : World) :
    Calls Try.prog 3 #[.agg (rowOf 14 (ints c)), .agg (rowOf 4 (ints x)), .int .i64 a] w fun e w' => e = .returned (.bool true) ∧ Below w.heap.size w w' := by
  have f14 := fold14 c
  have f4 := fold4 x
  have N0 := neq_conf5 (fun _ => 0)
  rw [← fold14 (fun _ => 0)] at N0
  have c0 := pConf_nil
  rw [← fold14 (fun _ => 0)] at c0
  have C0 := Lib.hid c0; clear c0
  have w0 := Lib.hid (pWhat_nil a)
  have s0 := Lib.hid pWords_nil
  have t0 := Lib.hid (pAt_nil x)
  have M := rMay_any c hc
  have NN := neq_conf5 c
  go_enter Try.func3, Try.ntmps3
  go_upto_region 1 with fail
  generalize hW : World.alloc _ _ = W
  obtain ⟨hB, hr, hq⟩ := two_blocks w 24 26 14 4 (ints c) (ints x) W hW
  clear hW
  generalize hz : w.heap.size = a1 at *
  have HZ := Lib.hid hz; clear hz
  have hL : LC w a1 (a1 + 1) c x W := ⟨hB, hr, hq⟩
  clear hB hr hq
  generalize a1 + 1 = a2 at *
  go_wp2_with fail
  refine (w0.out _).mono ?_; rintro e w1 ⟨rfl, hb⟩
  replace hL := hL.keep HZ.out hb
  clear hb w0
  go_upto_region 3 with (refine wpList_store_row rfl 26 _ _ rfl w1.heap.size (rowOf 4 (ints fun _ => 0)) rfl rfl 26 (rowOf 4 (ints fun _ => 0)) (heap_alloc_new w1 _) (by kernel_rfl) rfl (ints_one _ _) ?_)
  rw [World.setRow_alloc_new]
  generalize hW2 : World.alloc _ _ = w2
  replace hL := hL.keep HZ.out (w2 := w2) (by rw [← hW2]; exact (Below.refl _ _).alloc (Nat.le_refl _) _)
  clear hW2
  generalize w1.heap.size = g8 at *
  go_wp2_with fail
  refine (s0.out _).mono ?_; rintro e w3 ⟨rfl, hb⟩
  replace hL := hL.keep HZ.out hb
  clear hb s0
  have v0 : w3.cell? ⟨a2, 0, none⟩ = some (.int .i64 (x 0)) := hL.2.2.cell (i := 0) (by omega)
  have v1 : w3.cell? ⟨a2, 1, none⟩ = some (.int .i64 (x 1)) := hL.2.2.cell (i := 1) (by omega)
  have v2 : w3.cell? ⟨a2, 2, none⟩ = some (.int .i64 (x 2)) := hL.2.2.cell (i := 2) (by omega)
  have v3 : w3.cell? ⟨a2, 3, none⟩ = some (.int .i64 (x 3)) := hL.2.2.cell (i := 3) (by omega)
  go_wp2_with fail
  refine (t0.out _).mono ?_; rintro e w4 ⟨rfl, hb⟩
  replace hL := hL.keep HZ.out hb
  clear hb t0 v0 v1 v2 v3
  go_wp2_with fail
  refine (C0.out _).mono ?_; rintro e w5 ⟨rfl, hb⟩
  replace hL := hL.keep HZ.out hb
  clear hb C0
  go_upto_region 5 with fail
  clear N0
  obtain ⟨u0, u1, u2, u3, u4, u5, u6, u7, u8, u9, u10, u11, u12, u13⟩ := conf_cells hL.2.1
  cases hm : mayB c
  · have N := Lib.hid (pNew_no c hc hm)
    rw [hm] at M
    have MM := Lib.hid M; clear M NN
    go_wp2_with fail
    refine (N.out _).mono ?_; rintro e w6 ⟨rfl, hb⟩
    clear u0 u1 u2 u3 u4 u5 u6 u7 u8 u9 u10 u11 u12 u13
    replace hL := hL.keep HZ.out hb
    clear hb N
    obtain ⟨u0, u1, u2, u3, u4, u5, u6, u7, u8, u9, u10, u11, u12, u13⟩ := conf_cells hL.2.1
    go_wp2_with fail
    refine (MM.out _).mono ?_; rintro e w7 ⟨rfl, hb⟩
    clear u0 u1 u2 u3 u4 u5 u6 u7 u8 u9 u10 u11 u12 u13
    replace hL := hL.keep HZ.out hb
    clear hb MM f14 f4
    go_wp2_with fail
    refine (lives5_any _).mono ?_; rintro e w9 ⟨rfl, hb⟩
    have hF := below_on hL.1 (Nat.le_of_eq HZ.out.symm) hb
    clear hb
    go_wp2_with fail
    go_ret
    exact ⟨by first | rfl | (refine retB ?_; simp; omega), by rw [HZ.out]; exact hF⟩
  · have N := Lib.hid (pNew_yes c hc hm)
    rw [hm] at M
    have MM := Lib.hid M; clear M
    have mb := may_bounds hm
    have AL := Lib.hid (rAll_any c mb.1 mb.2.2.2.1 mb.2.2.2.2.1)
    have wb := words_bounds hm
    have e1 : (c 0).toNat * perN c = wordsN c := rfl
    rw [e1] at AL
    have cWords := Lib.hid (fun p w (h : PlanIs w p c) => pWords_any p c w h)
    have cConf := Lib.hid (fun p w (h : PlanIs w p c) => pConf_any p c w h)
    have cAt := Lib.hid (fun p w (h : PlanIs w p c) => pAt_any p c x hx w h)
    have cWhat := Lib.hid (fun p w (h : PlanIs w p c) => pWhat_any p c a ha w h)
    have cRAt := Lib.hid (fun g cap w (hg : g < w.heap.size) (hP : Places w c g (wordsN c)) => r5At_any c g (wordsN c) cap (by omega) x w hg hP)
    have XA : Hid (∀ i : Nat, i < wordsN c → a = i → whatP c a = plc c i) := Lib.hid (fun i hi e => by rw [e]; exact whatP_in hi)
    have XZ : Hid (whatB c a = false → whatP c a = fun _ => 0) := Lib.hid (fun h => by
      rcases whatB_cases c a with h2 | h2 | h2
      · rw [h2.1] at h; cases h
      · unfold whatP; rw [if_neg (by omega)]
      · unfold whatP; rw [if_neg (by omega)])
    have IA := Lib.hid (whatB_cases c a)
    have e2 : ((wordsN c : Int) != (wordsN c : Int)) = false := by simp
    have e3 : (atN c (wordsN c) x != atN c (wordsN c) x) = false := by simp
    generalize atN c (wordsN c) x = z at *
    generalize whatP c a = y at *
    generalize whatB c a = ia at *
    generalize wordsN c = n at *
    clear mb e1
    go_wp2_with fail
    refine (N.out _).mono ?_; rintro e w6 ⟨p, rfl, hp, hb⟩
    clear u0 u1 u2 u3 u4 u5 u6 u7 u8 u9 u10 u11 u12 u13
    replace hL := hL.keep HZ.out hb
    clear hb N
    obtain ⟨u0, u1, u2, u3, u4, u5, u6, u7, u8, u9, u10, u11, u12, u13⟩ := conf_cells hL.2.1
    go_wp2_with fail
    refine (MM.out _).mono ?_; rintro e w7 ⟨rfl, hb⟩
    clear u0 u1 u2 u3 u4 u5 u6 u7 u8 u9 u10 u11 u12 u13
    replace hL := hL.keep HZ.out hb
    replace hp := hp.keep hb
    clear hb MM
    obtain ⟨u0, u1, u2, u3, u4, u5, u6, u7, u8, u9, u10, u11, u12, u13⟩ := conf_cells hL.2.1
    go_wp2_with fail
    refine (AL.out _).mono ?_; rintro e w8 ⟨v, rfl, hown, hb⟩
    obtain ⟨g, cap, rfl, hg1, hg2, hq⟩ := places_of_own hown wb.1
    clear u0 u1 u2 u3 u4 u5 u6 u7 u8 u9 u10 u11 u12 u13
    have hD : LD w a1 a2 c x p g n w8 := ⟨hL.keep HZ.out hb, hp.keep hb, hq, hg2⟩
    clear hb AL hown hL hp hq hg1 hg2
    replace cWords := Lib.hid (cWords.out p)
    replace cConf := Lib.hid (cConf.out p)
    replace cAt := Lib.hid (cAt.out p)
    replace cWhat := Lib.hid (cWhat.out p)
    replace cRAt := Lib.hid (cRAt.out g cap)
    have H0 := Lib.hid (hD.keep HZ.out ((Below.refl _ _).drew)).held
    clear hD
    go_upto_region 9 with fail
    refine wp_region_noPanic ?_
    refine wp_region_held_drew (S := fun w' => LD w a1 a2 c x p g n w' ∧ w'.cell? ⟨a1, 0, none⟩ = some (.int .i64 (c 0)) ∧ w'.cell? ⟨a1, 1, none⟩ = some (.int .i64 (c 1)) ∧ w'.cell? ⟨a1, 2, none⟩ = some (.int .i64 (c 2)) ∧ w'.cell? ⟨a1, 3, none⟩ = some (.int .i64 (c 3)) ∧ w'.cell? ⟨a1, 4, none⟩ = some (.int .i64 (c 4)) ∧ w'.cell? ⟨a1, 5, none⟩ = some (.int .i64 (c 5)) ∧ w'.cell? ⟨a1, 6, none⟩ = some (.int .i64 (c 6)) ∧ w'.cell? ⟨a1, 7, none⟩ = some (.int .i64 (c 7)) ∧ w'.cell? ⟨a1, 8, none⟩ = some (.int .i64 (c 8)) ∧ w'.cell? ⟨a1, 9, none⟩ = some (.int .i64 (c 9)) ∧ w'.cell? ⟨a1, 10, none⟩ = some (.int .i64 (c 10)) ∧ w'.cell? ⟨a1, 11, none⟩ = some (.int .i64 (c 11)) ∧ w'.cell? ⟨a1, 12, none⟩ = some (.int .i64 (c 12)) ∧ w'.cell? ⟨a1, 13, none⟩ = some (.int .i64 (c 13)) ∧ w'.cell? ⟨a2, 0, none⟩ = some (.int .i64 (x 0)) ∧ w'.cell? ⟨a2, 1, none⟩ = some (.int .i64 (x 1)) ∧ w'.cell? ⟨a2, 2, none⟩ = some (.int .i64 (x 2)) ∧ w'.cell? ⟨a2, 3, none⟩ = some (.int .i64 (x 3))) (by kernel_rfl) (H0.out) (fun hHeld => ?_)
    (refine wpAnyH_take (i := 0) (v := ?_) rfl (by kernel_rfl) (by kernel_rfl) (by kernel_rfl) (fun _ _ _ h => h) (Or.inl ⟨by rfl, ?_⟩) hHeld ?_; rotate_left; focus (intro w hSw; (try dsimp only at hSw); go_simp; (try with_reducible rfl)))
    try simp only [Act.put, List.getElem_toArray, List.getElem_cons_succ, List.getElem_cons_zero, List.setIfInBounds_toArray, List.set_cons_zero, List.set_cons_succ]
    (refine wpAnyH_take (i := 1) (v := ?_) rfl (by kernel_rfl) (by kernel_rfl) (by kernel_rfl) (fun _ _ _ h => h) (Or.inl ⟨by rfl, ?_⟩) hHeld ?_; rotate_left; focus (intro w hSw; (try dsimp only at hSw); go_simp; (try with_reducible rfl)))
    try simp only [Act.put, List.getElem_toArray, List.getElem_cons_succ, List.getElem_cons_zero, List.setIfInBounds_toArray, List.set_cons_zero, List.set_cons_succ]
    (refine wpAnyH_take (i := 2) (v := ?_) rfl (by kernel_rfl) (by kernel_rfl) (by kernel_rfl) (fun _ _ _ h => h) (Or.inl ⟨by rfl, ?_⟩) hHeld ?_; rotate_left; focus (intro w hSw; (try dsimp only at hSw); go_simp; (try with_reducible rfl)))
    try simp only [Act.put, List.getElem_toArray, List.getElem_cons_succ, List.getElem_cons_zero, List.setIfInBounds_toArray, List.set_cons_zero, List.set_cons_succ]
    first | (refine wpAnyH_take (i := 3) rfl (by kernel_rfl) (by kernel_rfl) (by kernel_rfl) (fun _ _ _ h => h) (Or.inr ⟨by rfl, rfl⟩) hHeld ?_) | (refine wpAnyH_take (i := 3) (v := ?_) rfl (by kernel_rfl) (by kernel_rfl) (by kernel_rfl) (fun _ _ _ h => h) (Or.inl ⟨by rfl, ?_⟩) hHeld ?_; rotate_left; focus (intro w hSw; (try dsimp only at hSw); go_simp; (try with_reducible rfl)))
    try simp only [Act.put, List.getElem_toArray, List.getElem_cons_succ, List.getElem_cons_zero, List.setIfInBounds_toArray, List.set_cons_zero, List.set_cons_succ]
    first | (refine wpAnyH_take (i := 5) rfl (by kernel_rfl) (by kernel_rfl) (by kernel_rfl) (fun _ _ _ h => h) (Or.inr ⟨by rfl, rfl⟩) hHeld ?_) | (refine wpAnyH_take (i := 5) (v := ?_) rfl (by kernel_rfl) (by kernel_rfl) (by kernel_rfl) (fun _ _ _ h => h) (Or.inl ⟨by rfl, ?_⟩) hHeld ?_; rotate_left; focus (intro w hSw; (try dsimp only at hSw); go_simp; (try with_reducible rfl)))
    try simp only [Act.put, List.getElem_toArray, List.getElem_cons_succ, List.getElem_cons_zero, List.setIfInBounds_toArray, List.set_cons_zero, List.set_cons_succ]
    first | (refine wpAnyH_take (i := 6) rfl (by kernel_rfl) (by kernel_rfl) (by kernel_rfl) (fun _ _ _ h => h) (Or.inr ⟨by rfl, rfl⟩) hHeld ?_) | (refine wpAnyH_take (i := 6) (v := ?_) rfl (by kernel_rfl) (by kernel_rfl) (by kernel_rfl) (fun _ _ _ h => h) (Or.inl ⟨by rfl, ?_⟩) hHeld ?_; rotate_left; focus (intro w hSw; (try dsimp only at hSw); go_simp; (try with_reducible rfl)))
    try simp only [Act.put, List.getElem_toArray, List.getElem_cons_succ, List.getElem_cons_zero, List.setIfInBounds_toArray, List.set_cons_zero, List.set_cons_succ]
    first | (refine wpAnyH_take (i := 4) rfl (by kernel_rfl) (by kernel_rfl) (by kernel_rfl) (fun _ _ _ h => h) (Or.inr ⟨by rfl, rfl⟩) hHeld ?_) | (refine wpAnyH_ready (rs := [4]) (by kernel_rfl) (by simp) ?_; refine AllReadyH.cons rfl (fun K hK => ?_) AllReadyH.nil; go_simp; (first | (go_at_call 7; refine (cWords.out _ hHeld.1.2.1).mono ?_; rintro e w' ⟨rfl, hb⟩) | (go_at_call 9; refine (cConf.out _ hHeld.1.2.1).mono ?_; rintro e w' ⟨rfl, hb⟩) | (go_at_call 8; refine (cAt.out _ hHeld.1.2.1).mono ?_; rintro e w' ⟨rfl, hb⟩) | (go_at_call 14; refine (cRAt.out _ hHeld.1.2.2.2 hHeld.1.2.2.1).mono ?_; rintro e w' ⟨rfl, hb⟩)); (try go_wp2_with fail); refine hK.out _ _ ?_ (fun hHeld' => ?_); (focus (exact (hHeld.1.keep HZ.out hb).held)); clear hK K; replace hHeld := hHeld'; clear hHeld')
    try simp only [Act.put, List.getElem_toArray, List.getElem_cons_succ, List.getElem_cons_zero, List.setIfInBounds_toArray, List.set_cons_zero, List.set_cons_succ]
    first | (refine wpAnyH_take (i := 7) rfl (by kernel_rfl) (by kernel_rfl) (by kernel_rfl) (fun _ _ _ h => h) (Or.inr ⟨by rfl, rfl⟩) hHeld ?_) | (refine wpAnyH_take (i := 7) (v := ?_) rfl (by kernel_rfl) (by kernel_rfl) (by kernel_rfl) (fun _ _ _ h => h) (Or.inl ⟨by rfl, ?_⟩) hHeld ?_; rotate_left; focus (intro w hSw; (try dsimp only at hSw); go_simp; (try with_reducible rfl)))
    try simp only [Act.put, List.getElem_toArray, List.getElem_cons_succ, List.getElem_cons_zero, List.setIfInBounds_toArray, List.set_cons_zero, List.set_cons_succ]
    (refine wpAnyH_take (i := 8) (v := ?_) rfl (by kernel_rfl) (by kernel_rfl) (by kernel_rfl) (fun _ _ _ h => h) (Or.inl ⟨by rfl, ?_⟩) hHeld ?_; rotate_left; focus (intro w hSw; (try dsimp only at hSw); go_simp; (try with_reducible rfl)))
    try simp only [Act.put, List.getElem_toArray, List.getElem_cons_succ, List.getElem_cons_zero, List.setIfInBounds_toArray, List.set_cons_zero, List.set_cons_succ]
    (refine wpAnyH_take (i := 9) (v := ?_) rfl (by kernel_rfl) (by kernel_rfl) (by kernel_rfl) (fun _ _ _ h => h) (Or.inl ⟨by rfl, ?_⟩) hHeld ?_; rotate_left; focus (intro w hSw; (try dsimp only at hSw); go_simp; (try with_reducible rfl)))
    try simp only [Act.put, List.getElem_toArray, List.getElem_cons_succ, List.getElem_cons_zero, List.setIfInBounds_toArray, List.set_cons_zero, List.set_cons_succ]
    first | (refine wpAnyH_take (i := 10) rfl (by kernel_rfl) (by kernel_rfl) (by kernel_rfl) (fun _ _ _ h => h) (Or.inr ⟨by rfl, rfl⟩) hHeld ?_) | (refine wpAnyH_take (i := 10) (v := ?_) rfl (by kernel_rfl) (by kernel_rfl) (by kernel_rfl) (fun _ _ _ h => h) (Or.inl ⟨by rfl, ?_⟩) hHeld ?_; rotate_left; focus (intro w hSw; (try dsimp only at hSw); go_simp; (try with_reducible rfl)))
    try simp only [Act.put, List.getElem_toArray, List.getElem_cons_succ, List.getElem_cons_zero, List.setIfInBounds_toArray, List.set_cons_zero, List.set_cons_succ]
    first | (refine wpAnyH_take (i := 12) rfl (by kernel_rfl) (by kernel_rfl) (by kernel_rfl) (fun _ _ _ h => h) (Or.inr ⟨by rfl, rfl⟩) hHeld ?_) | (refine wpAnyH_take (i := 12) (v := ?_) rfl (by kernel_rfl) (by kernel_rfl) (by kernel_rfl) (fun _ _ _ h => h) (Or.inl ⟨by rfl, ?_⟩) hHeld ?_; rotate_left; focus (intro w hSw; (try dsimp only at hSw); go_simp; (try with_reducible rfl)))
    try simp only [Act.put, List.getElem_toArray, List.getElem_cons_succ, List.getElem_cons_zero, List.setIfInBounds_toArray, List.set_cons_zero, List.set_cons_succ]
    first | (refine wpAnyH_take (i := 11) rfl (by kernel_rfl) (by kernel_rfl) (by kernel_rfl) (fun _ _ _ h => h) (Or.inr ⟨by rfl, rfl⟩) hHeld ?_) | (refine wpAnyH_ready (rs := [11]) (by kernel_rfl) (by simp) ?_; refine AllReadyH.cons rfl (fun K hK => ?_) AllReadyH.nil; go_simp; (first | (go_at_call 7; refine (cWords.out _ hHeld.1.2.1).mono ?_; rintro e w' ⟨rfl, hb⟩) | (go_at_call 9; refine (cConf.out _ hHeld.1.2.1).mono ?_; rintro e w' ⟨rfl, hb⟩) | (go_at_call 8; refine (cAt.out _ hHeld.1.2.1).mono ?_; rintro e w' ⟨rfl, hb⟩) | (go_at_call 14; refine (cRAt.out _ hHeld.1.2.2.2 hHeld.1.2.2.1).mono ?_; rintro e w' ⟨rfl, hb⟩)); (try go_wp2_with fail); refine hK.out _ _ ?_ (fun hHeld' => ?_); (focus (exact (hHeld.1.keep HZ.out hb).held)); clear hK K; replace hHeld := hHeld'; clear hHeld')
    try simp only [Act.put, List.getElem_toArray, List.getElem_cons_succ, List.getElem_cons_zero, List.setIfInBounds_toArray, List.set_cons_zero, List.set_cons_succ]
    first | (refine wpAnyH_take (i := 13) rfl (by kernel_rfl) (by kernel_rfl) (by kernel_rfl) (fun _ _ _ h => h) (Or.inr ⟨by rfl, rfl⟩) hHeld ?_) | (refine wpAnyH_take (i := 13) (v := ?_) rfl (by kernel_rfl) (by kernel_rfl) (by kernel_rfl) (fun _ _ _ h => h) (Or.inl ⟨by rfl, ?_⟩) hHeld ?_; rotate_left; focus (intro w hSw; (try dsimp only at hSw); go_simp; (try with_reducible rfl)))
    try simp only [Act.put, List.getElem_toArray, List.getElem_cons_succ, List.getElem_cons_zero, List.setIfInBounds_toArray, List.set_cons_zero, List.set_cons_succ]
    (refine wpAnyH_take (i := 14) (v := ?_) rfl (by kernel_rfl) (by kernel_rfl) (by kernel_rfl) (fun _ _ _ h => h) (Or.inl ⟨by rfl, ?_⟩) hHeld ?_; rotate_left; focus (intro w hSw; (try dsimp only at hSw); go_simp; (try with_reducible rfl)))
    try simp only [Act.put, List.getElem_toArray, List.getElem_cons_succ, List.getElem_cons_zero, List.setIfInBounds_toArray, List.set_cons_zero, List.set_cons_succ]
    (refine wpAnyH_take (i := 15) (v := ?_) rfl (by kernel_rfl) (by kernel_rfl) (by kernel_rfl) (fun _ _ _ h => h) (Or.inl ⟨by rfl, ?_⟩) hHeld ?_; rotate_left; focus (intro w hSw; (try dsimp only at hSw); go_simp; (try with_reducible rfl)))
    try simp only [Act.put, List.getElem_toArray, List.getElem_cons_succ, List.getElem_cons_zero, List.setIfInBounds_toArray, List.set_cons_zero, List.set_cons_succ]
    first | (refine wpAnyH_take (i := 16) rfl (by kernel_rfl) (by kernel_rfl) (by kernel_rfl) (fun _ _ _ h => h) (Or.inr ⟨by rfl, rfl⟩) hHeld ?_) | (refine wpAnyH_take (i := 16) (v := ?_) rfl (by kernel_rfl) (by kernel_rfl) (by kernel_rfl) (fun _ _ _ h => h) (Or.inl ⟨by rfl, ?_⟩) hHeld ?_; rotate_left; focus (intro w hSw; (try dsimp only at hSw); go_simp; (try with_reducible rfl)))
    try simp only [Act.put, List.getElem_toArray, List.getElem_cons_succ, List.getElem_cons_zero, List.setIfInBounds_toArray, List.set_cons_zero, List.set_cons_succ]
    first | (refine wpAnyH_take (i := 17) rfl (by kernel_rfl) (by kernel_rfl) (by kernel_rfl) (fun _ _ _ h => h) (Or.inr ⟨by rfl, rfl⟩) hHeld ?_) | (refine wpAnyH_take (i := 17) (v := ?_) rfl (by kernel_rfl) (by kernel_rfl) (by kernel_rfl) (fun _ _ _ h => h) (Or.inl ⟨by rfl, ?_⟩) hHeld ?_; rotate_left; focus (intro w hSw; (try dsimp only at hSw); go_simp; (try with_reducible rfl)))
    try simp only [Act.put, List.getElem_toArray, List.getElem_cons_succ, List.getElem_cons_zero, List.setIfInBounds_toArray, List.set_cons_zero, List.set_cons_succ]
    first | (refine wpAnyH_take (i := 19) rfl (by kernel_rfl) (by kernel_rfl) (by kernel_rfl) (fun _ _ _ h => h) (Or.inr ⟨by rfl, rfl⟩) hHeld ?_) | (refine wpAnyH_take (i := 19) (v := ?_) rfl (by kernel_rfl) (by kernel_rfl) (by kernel_rfl) (fun _ _ _ h => h) (Or.inl ⟨by rfl, ?_⟩) hHeld ?_; rotate_left; focus (intro w hSw; (try dsimp only at hSw); go_simp; (try with_reducible rfl)))
    try simp only [Act.put, List.getElem_toArray, List.getElem_cons_succ, List.getElem_cons_zero, List.setIfInBounds_toArray, List.set_cons_zero, List.set_cons_succ]
    first | (refine wpAnyH_take (i := 20) rfl (by kernel_rfl) (by kernel_rfl) (by kernel_rfl) (fun _ _ _ h => h) (Or.inr ⟨by rfl, rfl⟩) hHeld ?_) | (refine wpAnyH_take (i := 20) (v := ?_) rfl (by kernel_rfl) (by kernel_rfl) (by kernel_rfl) (fun _ _ _ h => h) (Or.inl ⟨by rfl, ?_⟩) hHeld ?_; rotate_left; focus (intro w hSw; (try dsimp only at hSw); go_simp; (try with_reducible rfl)))
    try simp only [Act.put, List.getElem_toArray, List.getElem_cons_succ, List.getElem_cons_zero, List.setIfInBounds_toArray, List.set_cons_zero, List.set_cons_succ]
    first | (refine wpAnyH_take (i := 18) rfl (by kernel_rfl) (by kernel_rfl) (by kernel_rfl) (fun _ _ _ h => h) (Or.inr ⟨by rfl, rfl⟩) hHeld ?_) | (refine wpAnyH_ready (rs := [18]) (by kernel_rfl) (by simp) ?_; refine AllReadyH.cons rfl (fun K hK => ?_) AllReadyH.nil; go_simp; (first | (go_at_call 7; refine (cWords.out _ hHeld.1.2.1).mono ?_; rintro e w' ⟨rfl, hb⟩) | (go_at_call 9; refine (cConf.out _ hHeld.1.2.1).mono ?_; rintro e w' ⟨rfl, hb⟩) | (go_at_call 8; refine (cAt.out _ hHeld.1.2.1).mono ?_; rintro e w' ⟨rfl, hb⟩) | (go_at_call 14; refine (cRAt.out _ hHeld.1.2.2.2 hHeld.1.2.2.1).mono ?_; rintro e w' ⟨rfl, hb⟩)); (try go_wp2_with fail); refine hK.out _ _ ?_ (fun hHeld' => ?_); (focus (exact (hHeld.1.keep HZ.out hb).held)); clear hK K; replace hHeld := hHeld'; clear hHeld')
    try simp only [Act.put, List.getElem_toArray, List.getElem_cons_succ, List.getElem_cons_zero, List.setIfInBounds_toArray, List.set_cons_zero, List.set_cons_succ]
    first | (refine wpAnyH_take (i := 21) rfl (by kernel_rfl) (by kernel_rfl) (by kernel_rfl) (fun _ _ _ h => h) (Or.inr ⟨by rfl, rfl⟩) hHeld ?_) | (refine wpAnyH_ready (rs := [21]) (by kernel_rfl) (by simp) ?_; refine AllReadyH.cons rfl (fun K hK => ?_) AllReadyH.nil; go_simp; (first | (go_at_call 7; refine (cWords.out _ hHeld.1.2.1).mono ?_; rintro e w' ⟨rfl, hb⟩) | (go_at_call 9; refine (cConf.out _ hHeld.1.2.1).mono ?_; rintro e w' ⟨rfl, hb⟩) | (go_at_call 8; refine (cAt.out _ hHeld.1.2.1).mono ?_; rintro e w' ⟨rfl, hb⟩) | (go_at_call 14; refine (cRAt.out _ hHeld.1.2.2.2 hHeld.1.2.2.1).mono ?_; rintro e w' ⟨rfl, hb⟩)); (try go_wp2_with fail); refine hK.out _ _ ?_ (fun hHeld' => ?_); (focus (exact (hHeld.1.keep HZ.out hb).held)); clear hK K; replace hHeld := hHeld'; clear hHeld')
    try simp only [Act.put, List.getElem_toArray, List.getElem_cons_succ, List.getElem_cons_zero, List.setIfInBounds_toArray, List.set_cons_zero, List.set_cons_succ]
    first | (refine wpAnyH_take (i := 22) rfl (by kernel_rfl) (by kernel_rfl) (by kernel_rfl) (fun _ _ _ h => h) (Or.inr ⟨by rfl, rfl⟩) hHeld ?_) | (refine wpAnyH_take (i := 22) (v := ?_) rfl (by kernel_rfl) (by kernel_rfl) (by kernel_rfl) (fun _ _ _ h => h) (Or.inl ⟨by rfl, ?_⟩) hHeld ?_; rotate_left; focus (intro w hSw; (try dsimp only at hSw); go_simp; (try with_reducible rfl)))
    try simp only [Act.put, List.getElem_toArray, List.getElem_cons_succ, List.getElem_cons_zero, List.setIfInBounds_toArray, List.set_cons_zero, List.set_cons_succ]
    (refine wpAnyH_take (i := 23) (v := ?_) rfl (by kernel_rfl) (by kernel_rfl) (by kernel_rfl) (fun _ _ _ h => h) (Or.inl ⟨by rfl, ?_⟩) hHeld ?_; rotate_left; focus (intro w hSw; (try dsimp only at hSw); go_simp; (try with_reducible rfl)))
    try simp only [Act.put, List.getElem_toArray, List.getElem_cons_succ, List.getElem_cons_zero, List.setIfInBounds_toArray, List.set_cons_zero, List.set_cons_succ]
    refine wpAnyH_done (by kernel_rfl) ?_ _
    refine NoPanic.normal ?_
    have hD := hHeld.1
    clear hHeld H0 cWords cConf cAt cRAt NN e2 e3
    go_wp2_with fail
    refine (cWhat.out _ hD.2.1).mono ?_; rintro e w9 ⟨rfl, hb⟩
    replace hD := hD.keep HZ.out hb
    clear hb cWhat f14 f4
    go_upto_region 12 with (refine wpList_store_row rfl 26 _ _ rfl w9.heap.size (rowOf 4 (ints y)) rfl rfl 26 (rowOf 4 (ints fun _ => 0)) (heap_alloc_new w9 _) (by kernel_rfl) rfl (ints_one _ _) ?_)
    rw [World.setRow_alloc_new]
    generalize hW10 : World.alloc _ _ = w10
    have hy : Row w10 w9.heap.size 26 4 (ints y) := by rw [← hW10]; exact Row.new _ _ _ _ _ rfl
    replace hD := hD.keep HZ.out (w2 := w10) (by rw [← hW10]; exact (Below.refl _ _).alloc (Nat.le_refl _) _)
    clear hW10
    generalize w9.heap.size = g13 at *
    have y0 : w10.cell? ⟨g13, 0, none⟩ = some (.int .i64 (y 0)) := hy.cell (i := 0) (by omega)
    have y1 : w10.cell? ⟨g13, 1, none⟩ = some (.int .i64 (y 1)) := hy.cell (i := 1) (by omega)
    have y2 : w10.cell? ⟨g13, 2, none⟩ = some (.int .i64 (y 2)) := hy.cell (i := 2) (by omega)
    have y3 : w10.cell? ⟨g13, 3, none⟩ = some (.int .i64 (y 3)) := hy.cell (i := 3) (by omega)
    rcases IA.out with ⟨rfl, a0, an⟩ | h
    · obtain ⟨i, rfl⟩ := Int.eq_ofNat_of_zero_le a0
      have hyi := XA.out i (by omega) rfl
      have HY := Lib.hid hyi
      have hE : ∀ w, (binOp .eql 41 (.agg (rowOf 4 (ints y))) (.agg (rowOf 4 (ints y)))).run Try.prog w = .ok (.bool true) w := fun w => by
        rw [eql_P]; simp [eqI]
      have f4 := fold4 y
      clear hyi XA XZ IA
      have hin : i < n := by omega
      have q0 : (0 : Int) ≤ (i : Int) := by omega
      have q1 : (i : Int) < (n : Int) := by omega
      have H0 := Lib.hid ((hD.keep HZ.out ((Below.refl _ _).drew)).held14 (i := i) (hy.drew) hin HY.out)
      clear hD hy y0 y1 y2 y3
      go_upto_region 14 with fail
      refine wp_region_noPanic ?_
      refine wp_region_held_drew (S := fun w' => (LD w a1 a2 c x p g n w' ∧ Row w' g13 26 4 (ints y)) ∧ w'.cell? ⟨g13, 0, none⟩ = some (.int .i64 (y 0)) ∧ w'.cell? ⟨g13, 1, none⟩ = some (.int .i64 (y 1)) ∧ w'.cell? ⟨g13, 2, none⟩ = some (.int .i64 (y 2)) ∧ w'.cell? ⟨g13, 3, none⟩ = some (.int .i64 (y 3)) ∧ w'.cell? ⟨g, i * 4, none⟩ = some (.int .i64 (y 0)) ∧ w'.cell? ⟨g, i * 4 + 1, none⟩ = some (.int .i64 (y 1)) ∧ w'.cell? ⟨g, i * 4 + 2, none⟩ = some (.int .i64 (y 2)) ∧ w'.cell? ⟨g, i * 4 + 3, none⟩ = some (.int .i64 (y 3))) (by kernel_rfl) (H0.out) (fun hHeld => ?_)
      (refine wpAnyH_take (i := 0) (v := ?_) rfl (by kernel_rfl) (by kernel_rfl) (by kernel_rfl) (fun _ _ _ h => h) (Or.inl ⟨by rfl, ?_⟩) hHeld ?_; rotate_left; focus (intro w hSw; (try dsimp only at hSw); go_simp; (try with_reducible rfl)))
      try simp only [Act.put, List.getElem_toArray, List.getElem_cons_succ, List.getElem_cons_zero, List.setIfInBounds_toArray, List.set_cons_zero, List.set_cons_succ]
      (refine wpAnyH_take (i := 1) (v := ?_) rfl (by kernel_rfl) (by kernel_rfl) (by kernel_rfl) (fun _ _ _ h => h) (Or.inl ⟨by rfl, ?_⟩) hHeld ?_; rotate_left; focus (intro w hSw; (try dsimp only at hSw); go_simp; (try with_reducible rfl)))
      try simp only [Act.put, List.getElem_toArray, List.getElem_cons_succ, List.getElem_cons_zero, List.setIfInBounds_toArray, List.set_cons_zero, List.set_cons_succ]
      first | (refine wpAnyH_take (i := 2) rfl (by kernel_rfl) (by kernel_rfl) (by kernel_rfl) (fun _ _ _ h => h) (Or.inr ⟨by rfl, rfl⟩) hHeld ?_) | (refine wpAnyH_take (i := 2) (v := ?_) rfl (by kernel_rfl) (by kernel_rfl) (by kernel_rfl) (fun _ _ _ h => h) (Or.inl ⟨by rfl, ?_⟩) hHeld ?_; rotate_left; focus (intro w hSw; (try dsimp only at hSw); go_simp; (try with_reducible rfl)))
      try simp only [Act.put, List.getElem_toArray, List.getElem_cons_succ, List.getElem_cons_zero, List.setIfInBounds_toArray, List.set_cons_zero, List.set_cons_succ]
      first | (refine wpAnyH_take (i := 3) rfl (by kernel_rfl) (by kernel_rfl) (by kernel_rfl) (fun _ _ _ h => h) (Or.inr ⟨by rfl, rfl⟩) hHeld ?_) | (refine wpAnyH_take (i := 3) (v := ?_) rfl (by kernel_rfl) (by kernel_rfl) (by kernel_rfl) (fun _ _ _ h => h) (Or.inl ⟨by rfl, ?_⟩) hHeld ?_; rotate_left; focus (intro w hSw; (try dsimp only at hSw); go_simp; (try with_reducible rfl)))
      try simp only [Act.put, List.getElem_toArray, List.getElem_cons_succ, List.getElem_cons_zero, List.setIfInBounds_toArray, List.set_cons_zero, List.set_cons_succ]
      first | (refine wpAnyH_take (i := 4) rfl (by kernel_rfl) (by kernel_rfl) (by kernel_rfl) (fun _ _ _ h => h) (Or.inr ⟨by rfl, rfl⟩) hHeld ?_) | (refine wpAnyH_take (i := 4) (v := ?_) rfl (by kernel_rfl) (by kernel_rfl) (by kernel_rfl) (fun _ _ _ h => h) (Or.inl ⟨by rfl, ?_⟩) hHeld ?_; rotate_left; focus (intro w hSw; (try dsimp only at hSw); go_simp; (try with_reducible rfl)))
      try simp only [Act.put, List.getElem_toArray, List.getElem_cons_succ, List.getElem_cons_zero, List.setIfInBounds_toArray, List.set_cons_zero, List.set_cons_succ]
      first | (refine wpAnyH_take (i := 5) rfl (by kernel_rfl) (by kernel_rfl) (by kernel_rfl) (fun _ _ _ h => h) (Or.inr ⟨by rfl, rfl⟩) hHeld ?_) | (refine wpAnyH_take (i := 5) (v := ?_) rfl (by kernel_rfl) (by kernel_rfl) (by kernel_rfl) (fun _ _ _ h => h) (Or.inl ⟨by rfl, ?_⟩) hHeld ?_; rotate_left; focus (intro w hSw; (try dsimp only at hSw); go_simp; (try with_reducible rfl)))
      try simp only [Act.put, List.getElem_toArray, List.getElem_cons_succ, List.getElem_cons_zero, List.setIfInBounds_toArray, List.set_cons_zero, List.set_cons_succ]
      first | (refine wpAnyH_take (i := 6) rfl (by kernel_rfl) (by kernel_rfl) (by kernel_rfl) (fun _ _ _ h => h) (Or.inr ⟨by rfl, rfl⟩) hHeld ?_) | (refine wpAnyH_take (i := 6) (v := ?_) rfl (by kernel_rfl) (by kernel_rfl) (by kernel_rfl) (fun _ _ _ h => h) (Or.inl ⟨by rfl, ?_⟩) hHeld ?_; rotate_left; focus (intro w hSw; (try dsimp only at hSw); go_simp; (try with_reducible rfl)))
      try simp only [Act.put, List.getElem_toArray, List.getElem_cons_succ, List.getElem_cons_zero, List.setIfInBounds_toArray, List.set_cons_zero, List.set_cons_succ]
      first | (refine wpAnyH_take (i := 7) rfl (by kernel_rfl) (by kernel_rfl) (by kernel_rfl) (fun _ _ _ h => h) (Or.inr ⟨by rfl, rfl⟩) hHeld ?_) | (refine wpAnyH_take (i := 7) (v := ?_) rfl (by kernel_rfl) (by kernel_rfl) (by kernel_rfl) (fun _ _ _ h => h) (Or.inl ⟨by rfl, ?_⟩) hHeld ?_; rotate_left; focus (intro w hSw; (try dsimp only at hSw); go_simp; (try with_reducible rfl)))
      try simp only [Act.put, List.getElem_toArray, List.getElem_cons_succ, List.getElem_cons_zero, List.setIfInBounds_toArray, List.set_cons_zero, List.set_cons_succ]
      (refine wpAnyH_take (i := 8) (v := ?_) rfl (by kernel_rfl) (by kernel_rfl) (by kernel_rfl) (fun _ _ _ h => h) (Or.inl ⟨by rfl, ?_⟩) hHeld ?_; rotate_left; focus (intro w hSw; (try dsimp only at hSw); go_simp; (try with_reducible rfl)))
      try simp only [Act.put, List.getElem_toArray, List.getElem_cons_succ, List.getElem_cons_zero, List.setIfInBounds_toArray, List.set_cons_zero, List.set_cons_succ]
      (refine wpAnyH_take (i := 9) (v := ?_) rfl (by kernel_rfl) (by kernel_rfl) (by kernel_rfl) (fun _ _ _ h => h) (Or.inl ⟨by rfl, ?_⟩) hHeld ?_; rotate_left; focus (intro w hSw; (try dsimp only at hSw); go_simp; (try with_reducible rfl)))
      try simp only [Act.put, List.getElem_toArray, List.getElem_cons_succ, List.getElem_cons_zero, List.setIfInBounds_toArray, List.set_cons_zero, List.set_cons_succ]
      first | (refine wpAnyH_take (i := 10) rfl (by kernel_rfl) (by kernel_rfl) (by kernel_rfl) (fun _ _ _ h => h) (Or.inr ⟨by rfl, rfl⟩) hHeld ?_) | (refine wpAnyH_ready (rs := [10]) (by kernel_rfl) (by simp) ?_; refine AllReadyH.cons rfl (fun K hK => ?_) AllReadyH.nil; go_simp; (go_at_call 12; refine (lives5_any _).mono ?_; rintro e w' ⟨rfl, hb⟩); (try go_wp2_with fail); refine hK.out _ _ ?_ (fun hHeld' => ?_); (focus (exact (hHeld.1.1.keep HZ.out hb).held14 (i := i) (hHeld.1.2.keep hb) hin HY.out)); clear hK K; replace hHeld := hHeld'; clear hHeld')
      try simp only [Act.put, List.getElem_toArray, List.getElem_cons_succ, List.getElem_cons_zero, List.setIfInBounds_toArray, List.set_cons_zero, List.set_cons_succ]
      (refine wpAnyH_take (i := 11) (v := ?_) rfl (by kernel_rfl) (by kernel_rfl) (by kernel_rfl) (fun _ _ _ h => h) (Or.inl ⟨by rfl, ?_⟩) hHeld ?_; rotate_left; focus (intro w hSw; (try dsimp only at hSw); go_simp; (try with_reducible rfl)))
      try simp only [Act.put, List.getElem_toArray, List.getElem_cons_succ, List.getElem_cons_zero, List.setIfInBounds_toArray, List.set_cons_zero, List.set_cons_succ]
      (refine wpAnyH_take (i := 12) (v := ?_) rfl (by kernel_rfl) (by kernel_rfl) (by kernel_rfl) (fun _ _ _ h => h) (Or.inl ⟨by rfl, ?_⟩) hHeld ?_; rotate_left; focus (intro w hSw; (try dsimp only at hSw); go_simp; (try with_reducible rfl)))
      try simp only [Act.put, List.getElem_toArray, List.getElem_cons_succ, List.getElem_cons_zero, List.setIfInBounds_toArray, List.set_cons_zero, List.set_cons_succ]
      refine wpAnyH_done (by kernel_rfl) ?_ _
      refine NoPanic.normal ?_
      have hF := hHeld.1.1.1.1
      clear hHeld H0 hE f4
      go_wp2_with fail
      go_ret
      exact ⟨rfl, by rw [HZ.out]; exact hF⟩
    · have hia : ia = false := by rcases h with h | h <;> exact h.1
      subst hia
      obtain rfl := XZ.out rfl
      have hE : ∀ w, (binOp .eql 26 (.agg #[.int .i64 0, .int .i64 0, .int .i64 0, .int .i64 0]) (.agg #[.int .i64 0, .int .i64 0, .int .i64 0, .int .i64 0])).run Try.prog w = .ok (.bool true) w := fun w => by
        have h := eql_Place (fun _ => 0) (fun _ => 0) w
        rw [← fold4 (fun _ => 0)] at h
        exact h
      have hL := hD.1
      rcases h with ⟨_, h2⟩ | ⟨_, h2, h3⟩
      ·
        go_wp2_with fail
        refine (lives5_any _).mono ?_; rintro e w9 ⟨rfl, hb⟩
        have hF := below_on hL.1 (Nat.le_of_eq HZ.out.symm) hb
        clear hb
        go_wp2_with fail
        go_ret
        exact ⟨by first | rfl | (refine retB ?_; simp; omega), by rw [HZ.out]; exact hF⟩
      ·
        go_wp2_with fail
        refine (lives5_any _).mono ?_; rintro e w9 ⟨rfl, hb⟩
        have hF := below_on hL.1 (Nat.le_of_eq HZ.out.symm) hb
        clear hb
        go_wp2_with fail
        go_ret
        exact ⟨by first | rfl | (refine retB ?_; simp; omega), by rw [HZ.out]; exact hF⟩
end Go.Proofs.Ytncemjpfdblecaa
