/- Statement PlanApart of layer 5, walked. -/
import Derived.Test.YtncemjpfdblecaaPlanLaws
namespace Go.Proofs.Ytncemjpfdblecaa
open Go.ChangeShapes Go.WideShapes Go.ChangeAt Go.RowKit

def LB (w : World) (a1 : Nat) (c : Nat → Int) (p : Addr) (gp gq : Nat) (x y : Nat → Int) (wr : World) : Prop := Below a1 w wr ∧ Row wr a1 24 14 (ints c) ∧ PlanIs wr p c ∧ Row wr gp 26 4 (ints x) ∧ Row wr gq 26 4 (ints y)
theorem LB.keep {w : World} {a1 : Nat} {c : Nat → Int} {p : Addr} {gp gq : Nat} {x y : Nat → Int} {w1 w2 : World} (h : LB w a1 c p gp gq x y w1) (ha : w.heap.size = a1) (hb : Below w1.heap.size w1 w2) : LB w a1 c p gp gq x y w2 :=
  ⟨below_on h.1 (Nat.le_of_eq ha.symm) hb, h.2.1.keep hb, h.2.2.1.keep hb, h.2.2.2.1.keep hb, h.2.2.2.2.keep hb⟩
theorem LB.cells {w : World} {a1 : Nat} {c : Nat → Int} {p : Addr} {gp gq : Nat} {x y : Nat → Int} {w1 : World} (h : LB w a1 c p gp gq x y w1) :
    (w1.cell? ⟨gp, 0, none⟩ = some (.int .i64 (x 0)) ∧ w1.cell? ⟨gp, 1, none⟩ = some (.int .i64 (x 1)) ∧ w1.cell? ⟨gp, 2, none⟩ = some (.int .i64 (x 2)) ∧ w1.cell? ⟨gp, 3, none⟩ = some (.int .i64 (x 3))) ∧
    (w1.cell? ⟨gq, 0, none⟩ = some (.int .i64 (y 0)) ∧ w1.cell? ⟨gq, 1, none⟩ = some (.int .i64 (y 1)) ∧ w1.cell? ⟨gq, 2, none⟩ = some (.int .i64 (y 2)) ∧ w1.cell? ⟨gq, 3, none⟩ = some (.int .i64 (y 3))) ∧ w1.cell? ⟨a1, 0, none⟩ = some (.int .i64 (c 0)) :=
  ⟨⟨h.2.2.2.1.cell (i := 0) (by omega), h.2.2.2.1.cell (i := 1) (by omega), h.2.2.2.1.cell (i := 2) (by omega), h.2.2.2.1.cell (i := 3) (by omega)⟩,
   ⟨h.2.2.2.2.cell (i := 0) (by omega), h.2.2.2.2.cell (i := 1) (by omega), h.2.2.2.2.cell (i := 2) (by omega), h.2.2.2.2.cell (i := 3) (by omega)⟩, h.2.1.cell (i := 0) (by omega)⟩

theorem whatB_cases (c : Nat → Int) (a : Int) : (whatB c a = true ∧ 0 ≤ a ∧ a < (wordsN c : Int)) ∨ (whatB c a = false ∧ ¬ 0 ≤ a) ∨ (whatB c a = false ∧ 0 ≤ a ∧ ¬ a < (wordsN c : Int)) := by
  unfold whatB
  by_cases h : 0 ≤ a
  · by_cases h2 : a < (wordsN c : Int)
    · exact .inl ⟨by rw [decide_eq_true h, decide_eq_true h2]; rfl, h, h2⟩
    · exact .inr (.inr ⟨by rw [decide_eq_true h, decide_eq_false h2]; rfl, h, h2⟩)
  · exact .inr (.inl ⟨by rw [decide_eq_false h]; rfl, h⟩)
theorem whatP_in {c : Nat → Int} {i : Nat} (h : i < wordsN c) : whatP c (i : Int) = plc c i := by unfold whatP; rw [if_pos (by omega)]; simp
theorem whatP_ok {c : Nat → Int} (hm : mayB c = true) (a : Int) : Ok64 (whatP c a) := by
  have := words_bounds hm
  unfold whatP
  split
  · exact plc_ok c _ (by omega)
  · exact fun _ => (show (-9223372036854775808 : Int) ≤ 0 ∧ (0 : Int) ≤ 9223372036854775807 from ⟨by omega, by omega⟩)

set_option maxRecDepth 100000 in
set_option maxHeartbeats 8000000 in
theorem planApart_walk (c : Nat → Int) (hc : Ok64 c) (a b : Int) (ha : -9223372036854775808 ≤ a ∧ a ≤ 9223372036854775807) (hb : -9223372036854775808 ≤ b ∧ b ≤ 9223372036854775807) (w : World) :
    Calls Try.prog 5 #[.agg (rowOf 14 (ints c)), .int .i64 a, .int .i64 b] w fun e w' => e = .returned (.bool true) ∧ Below w.heap.size w w' := by
  have f14 := fold14 c
  cases hm : mayB c
  · have N := Lib.hid (pNew_no c hc hm)
    go_enter Try.func5, Try.ntmps5
    go_upto_region 1 with fail
    generalize hW : World.alloc _ _ = W
    have hr : Row W w.heap.size 24 14 (ints c) := by rw [← hW]; exact Row.new _ _ _ _ _ rfl
    have hB : Below w.heap.size w W := by rw [← hW]; exact (Below.refl _ _).alloc (Nat.le_refl _) _
    clear hW
    generalize hz : w.heap.size = a1 at *
    have HZ := Lib.hid hz; clear hz
    obtain ⟨u0, u1, u2, u3, u4, u5, u6, u7, u8, u9, u10, u11, u12, u13⟩ := conf_cells hr
    go_wp2_with fail
    refine (N.out _).mono ?_; rintro e w1 ⟨rfl, hb⟩
    clear u0 u1 u2 u3 u4 u5 u6 u7 u8 u9 u10 u11 u12 u13
    replace hB := below_on hB (Nat.le_of_eq HZ.out.symm) hb
    clear hb hr
    go_wp2_with fail
    refine (lives5_any _).mono ?_; rintro e w3 ⟨rfl, hb⟩
    replace hB := below_on hB (Nat.le_of_eq HZ.out.symm) hb
    clear hb
    go_wp2_with fail
    go_ret
    exact ⟨rfl, by rw [HZ.out]; exact hB⟩
  · have N := Lib.hid (pNew_yes c hc hm)
    have wb := words_bounds hm
    have cA := Lib.hid (fun p w (h : PlanIs w p c) => pWhat_any p c a ha w h)
    have cB := Lib.hid (fun p w (h : PlanIs w p c) => pWhat_any p c b hb w h)
    have IA := Lib.hid (whatB_cases c a)
    have IB := Lib.hid (whatB_cases c b)
    have cWords := Lib.hid (fun p w (h : PlanIs w p c) => pWords_any p c w h)
    have XA : Hid (∀ i : Nat, i < wordsN c → a = i → whatP c a = plc c i) := Lib.hid (fun i hi e => by rw [e]; exact whatP_in hi)
    have XB : Hid (∀ i : Nat, i < wordsN c → b = i → whatP c b = plc c i) := Lib.hid (fun i hi e => by rw [e]; exact whatP_in hi)
    have HL := Lib.hid (fun i (h : i < wordsN c) => plc_level hm h)
    have cAt := Lib.hid (fun (k : Nat) (hk : k < wordsN c) p w (h : PlanIs w p c) => show Calls Try.prog 8 #[.pointer (some p), .agg (rowOf 4 (ints (plc c k)))] w fun e w' => e = .returned (.int .i64 k) ∧ Below w.heap.size w w' by
      have h2 := pAt_any p c (plc c k) (plc_ok c k (by omega)) w h
      rw [atN_plc c _ k hk] at h2
      exact h2)
    generalize whatP c a = x at *
    generalize whatP c b = y at *
    generalize whatB c a = ia at *
    generalize whatB c b = ib at *
    generalize wordsN c = n at *
    go_enter Try.func5, Try.ntmps5
    go_upto_region 1 with fail
    generalize hW : World.alloc _ _ = W
    have hr : Row W w.heap.size 24 14 (ints c) := by rw [← hW]; exact Row.new _ _ _ _ _ rfl
    have hB : Below w.heap.size w W := by rw [← hW]; exact (Below.refl _ _).alloc (Nat.le_refl _) _
    clear hW
    generalize hz : w.heap.size = a1 at *
    have HZ := Lib.hid hz; clear hz
    obtain ⟨u0, u1, u2, u3, u4, u5, u6, u7, u8, u9, u10, u11, u12, u13⟩ := conf_cells hr
    go_wp2_with fail
    refine (N.out _).mono ?_; rintro e w1 ⟨p, rfl, hp, hb⟩
    clear u0 u1 u2 u3 u4 u5 u6 u7 u8 u9 u10 u11 u12 u13
    replace hr := hr.keep hb
    replace hB := below_on hB (Nat.le_of_eq HZ.out.symm) hb
    clear hb N f14
    go_wp2_with fail
    refine (cA.out _ _ hp).mono ?_; rintro e w2 ⟨rfl, hb⟩
    replace hr := hr.keep hb
    replace hp := hp.keep hb
    replace hB := below_on hB (Nat.le_of_eq HZ.out.symm) hb
    clear hb cA
    go_upto_region 5 with (refine wpList_store_row rfl 26 _ _ rfl w2.heap.size (rowOf 4 (ints x)) rfl rfl 26 (rowOf 4 (ints fun _ => 0)) (heap_alloc_new w2 _) (by kernel_rfl) rfl (ints_one _ _) ?_)
    rw [World.setRow_alloc_new]
    generalize hW3 : World.alloc _ _ = w3
    have hx : Row w3 w2.heap.size 26 4 (ints x) := by rw [← hW3]; exact Row.new _ _ _ _ _ rfl
    have hb : Below w2.heap.size w2 w3 := by rw [← hW3]; exact (Below.refl _ _).alloc (Nat.le_refl _) _
    replace hr := hr.keep hb
    replace hp := hp.keep hb
    replace hB := below_on hB (Nat.le_of_eq HZ.out.symm) hb
    clear hb hW3
    generalize w2.heap.size = gp at *
    go_wp2_with fail
    refine (cB.out _ _ hp).mono ?_; rintro e w4 ⟨rfl, hb⟩
    replace hr := hr.keep hb
    replace hp := hp.keep hb
    replace hx := hx.keep hb
    replace hB := below_on hB (Nat.le_of_eq HZ.out.symm) hb
    clear hb cB
    go_upto_region 6 with (refine wpList_store_row rfl 26 _ _ rfl w4.heap.size (rowOf 4 (ints y)) rfl rfl 26 (rowOf 4 (ints fun _ => 0)) (heap_alloc_new w4 _) (by kernel_rfl) rfl (ints_one _ _) ?_)
    rw [World.setRow_alloc_new]
    generalize hW5 : World.alloc _ _ = w5
    have hy : Row w5 w4.heap.size 26 4 (ints y) := by rw [← hW5]; exact Row.new _ _ _ _ _ rfl
    have hb : Below w4.heap.size w4 w5 := by rw [← hW5]; exact (Below.refl _ _).alloc (Nat.le_refl _) _
    have hL : LB w a1 c p gp w4.heap.size x y w5 := ⟨below_on hB (Nat.le_of_eq HZ.out.symm) hb, hr.keep hb, hp.keep hb, hx.keep hb, hy⟩
    clear hb hW5 hr hp hx hy hB
    generalize w4.heap.size = gq at *
    replace cWords := Lib.hid (cWords.out p)
    go_cut [58] (fun s58 wx => s58 = .bool false ∧ LB w a1 c p gp gq x y wx)
    case first =>
      clear cAt HL XA XB
      rcases IA.out with ⟨rfl, a0, an⟩ | ⟨rfl, a0⟩ | ⟨rfl, a0, an⟩
      · rcases IB.out with ⟨rfl, b0, bn⟩ | ⟨rfl, b0⟩ | ⟨rfl, b0, bn⟩
        · clear IA IB
          go_wp2_with fail
          refine (cWords.out _ hL.2.2.1).mono ?_; rintro e W1 ⟨rfl, hb⟩
          replace hL := hL.keep HZ.out hb
          clear hb
          go_wp2_with fail
          refine (cWords.out _ hL.2.2.1).mono ?_; rintro e W1 ⟨rfl, hb⟩
          replace hL := hL.keep HZ.out hb
          clear hb
          go_wp2_with fail
          go_meet
          exact ⟨by first | rfl | (refine congrArg Value.bool ?_; simp; omega), hL⟩
        · clear IA IB
          go_wp2_with fail
          refine (cWords.out _ hL.2.2.1).mono ?_; rintro e W1 ⟨rfl, hb⟩
          replace hL := hL.keep HZ.out hb
          clear hb
          go_wp2_with fail
          go_meet
          exact ⟨by first | rfl | (refine congrArg Value.bool ?_; simp; omega), hL⟩
        · clear IA IB
          go_wp2_with fail
          refine (cWords.out _ hL.2.2.1).mono ?_; rintro e W1 ⟨rfl, hb⟩
          replace hL := hL.keep HZ.out hb
          clear hb
          go_wp2_with fail
          refine (cWords.out _ hL.2.2.1).mono ?_; rintro e W1 ⟨rfl, hb⟩
          replace hL := hL.keep HZ.out hb
          clear hb
          go_wp2_with fail
          go_meet
          exact ⟨by first | rfl | (refine congrArg Value.bool ?_; simp; omega), hL⟩
      · rcases IB.out with ⟨rfl, b0, bn⟩ | ⟨rfl, b0⟩ | ⟨rfl, b0, bn⟩
        · clear IA IB
          go_wp2_with fail
          refine (cWords.out _ hL.2.2.1).mono ?_; rintro e W1 ⟨rfl, hb⟩
          replace hL := hL.keep HZ.out hb
          clear hb
          go_wp2_with fail
          go_meet
          exact ⟨by first | rfl | (refine congrArg Value.bool ?_; simp; omega), hL⟩
        · clear IA IB
          go_wp2_with fail
          go_meet
          exact ⟨by first | rfl | (refine congrArg Value.bool ?_; simp; omega), hL⟩
        · clear IA IB
          go_wp2_with fail
          refine (cWords.out _ hL.2.2.1).mono ?_; rintro e W1 ⟨rfl, hb⟩
          replace hL := hL.keep HZ.out hb
          clear hb
          go_wp2_with fail
          go_meet
          exact ⟨by first | rfl | (refine congrArg Value.bool ?_; simp; omega), hL⟩
      · rcases IB.out with ⟨rfl, b0, bn⟩ | ⟨rfl, b0⟩ | ⟨rfl, b0, bn⟩
        · clear IA IB
          go_wp2_with fail
          refine (cWords.out _ hL.2.2.1).mono ?_; rintro e W1 ⟨rfl, hb⟩
          replace hL := hL.keep HZ.out hb
          clear hb
          go_wp2_with fail
          refine (cWords.out _ hL.2.2.1).mono ?_; rintro e W1 ⟨rfl, hb⟩
          replace hL := hL.keep HZ.out hb
          clear hb
          go_wp2_with fail
          go_meet
          exact ⟨by first | rfl | (refine congrArg Value.bool ?_; simp; omega), hL⟩
        · clear IA IB
          go_wp2_with fail
          refine (cWords.out _ hL.2.2.1).mono ?_; rintro e W1 ⟨rfl, hb⟩
          replace hL := hL.keep HZ.out hb
          clear hb
          go_wp2_with fail
          go_meet
          exact ⟨by first | rfl | (refine congrArg Value.bool ?_; simp; omega), hL⟩
        · clear IA IB
          go_wp2_with fail
          refine (cWords.out _ hL.2.2.1).mono ?_; rintro e W1 ⟨rfl, hb⟩
          replace hL := hL.keep HZ.out hb
          clear hb
          go_wp2_with fail
          refine (cWords.out _ hL.2.2.1).mono ?_; rintro e W1 ⟨rfl, hb⟩
          replace hL := hL.keep HZ.out hb
          clear hb
          go_wp2_with fail
          go_meet
          exact ⟨by first | rfl | (refine congrArg Value.bool ?_; simp; omega), hL⟩
    case rest =>
      obtain ⟨rfl, hL⟩ := hcut
      clear cWords
      rcases IA.out with ⟨rfl, a0, an⟩ | h
      · rcases IB.out with ⟨rfl, b0, bn⟩ | h
        · obtain ⟨i, rfl⟩ := Int.eq_ofNat_of_zero_le a0
          obtain ⟨j, rfl⟩ := Int.eq_ofNat_of_zero_le b0
          obtain rfl := XA.out i (by omega) rfl
          obtain rfl := XB.out j (by omega) rfl
          have hl1 := (HL.out i (by omega)).2
          have cI := Lib.hid (cAt.out i (by omega) p)
          have cJ := Lib.hid (cAt.out j (by omega) p)
          have hE : ∀ w, (binOp .eql 26 (.agg (rowOf 4 (ints (plc c i)))) (.agg (rowOf 4 (ints (plc c j))))).run Try.prog w = .ok (.bool (decide (i = j))) w := fun w => by rw [eql_Place, eqI_plc]
          have hR : i ≤ j → plc c i 0 ≤ plc c j 0 := fun h => plc_rises c h
          have fi := fold4 (plc c i)
          have fj := fold4 (plc c j)
          have HE := Lib.hid hE
          clear hE IA IB XA XB HL cAt
          generalize hxi : plc c i = x at *
          generalize hyj : plc c j = y at *
          clear hxi hyj
          by_cases hij : i = j
          · have hE := HE.out
            rw [decide_eq_true hij] at hE
            have d1 : ((i : Int) == (j : Int)) = true := by simp; omega
            have hr2 := hR (by omega)
            have d2 : decide (j < i) = false := decide_eq_false (by omega)
            clear HE hij hR
            obtain ⟨⟨v0, v1, v2, v3⟩, ⟨u0, u1, u2, u3⟩, f0⟩ := hL.cells
            go_wp2_with fail
            refine (cI.out _ hL.2.2.1).mono ?_; rintro e W1 ⟨rfl, hb⟩
            replace hL := hL.keep HZ.out hb
            clear hb v0 v1 v2 v3 u0 u1 u2 u3 f0
            obtain ⟨⟨v0, v1, v2, v3⟩, ⟨u0, u1, u2, u3⟩, f0⟩ := hL.cells
            go_wp2_with fail
            refine (cJ.out _ hL.2.2.1).mono ?_; rintro e W2 ⟨rfl, hb⟩
            replace hL := hL.keep HZ.out hb
            clear hb v0 v1 v2 v3 u0 u1 u2 u3 f0
            obtain ⟨⟨v0, v1, v2, v3⟩, ⟨u0, u1, u2, u3⟩, f0⟩ := hL.cells
            go_wp2_with fail
            refine (lives5_any _).mono ?_; rintro e w9 ⟨rfl, hb⟩
            have hF := below_on hL.1 (Nat.le_of_eq HZ.out.symm) hb
            clear hb
            go_wp2_with fail
            go_ret
            exact ⟨by first | rfl | (refine retB ?_; simp; omega), by rw [HZ.out]; exact hF⟩
          · have hE := HE.out
            rw [decide_eq_false hij] at hE
            have d1 : ((i : Int) == (j : Int)) = false := by simp; omega
            clear HE
            by_cases hlt : j < i
            · have d2 : decide (j < i) = true := decide_eq_true (by omega)
              clear hij hR
              obtain ⟨⟨v0, v1, v2, v3⟩, ⟨u0, u1, u2, u3⟩, f0⟩ := hL.cells
              go_wp2_with fail
              refine (cI.out _ hL.2.2.1).mono ?_; rintro e W1 ⟨rfl, hb⟩
              replace hL := hL.keep HZ.out hb
              clear hb v0 v1 v2 v3 u0 u1 u2 u3 f0
              obtain ⟨⟨v0, v1, v2, v3⟩, ⟨u0, u1, u2, u3⟩, f0⟩ := hL.cells
              go_wp2_with fail
              refine (cJ.out _ hL.2.2.1).mono ?_; rintro e W2 ⟨rfl, hb⟩
              replace hL := hL.keep HZ.out hb
              clear hb v0 v1 v2 v3 u0 u1 u2 u3 f0
              obtain ⟨⟨v0, v1, v2, v3⟩, ⟨u0, u1, u2, u3⟩, f0⟩ := hL.cells
              go_wp2_with fail
              refine (lives5_any _).mono ?_; rintro e w9 ⟨rfl, hb⟩
              have hF := below_on hL.1 (Nat.le_of_eq HZ.out.symm) hb
              clear hb
              go_wp2_with fail
              go_ret
              exact ⟨by first | rfl | (refine retB ?_; simp; omega), by rw [HZ.out]; exact hF⟩
            · have d2 : decide (j < i) = false := decide_eq_false (by omega)
              have hr2 := hR (by omega)
              clear hij hR
              obtain ⟨⟨v0, v1, v2, v3⟩, ⟨u0, u1, u2, u3⟩, f0⟩ := hL.cells
              go_wp2_with fail
              refine (cI.out _ hL.2.2.1).mono ?_; rintro e W1 ⟨rfl, hb⟩
              replace hL := hL.keep HZ.out hb
              clear hb v0 v1 v2 v3 u0 u1 u2 u3 f0
              obtain ⟨⟨v0, v1, v2, v3⟩, ⟨u0, u1, u2, u3⟩, f0⟩ := hL.cells
              go_wp2_with fail
              refine (cJ.out _ hL.2.2.1).mono ?_; rintro e W2 ⟨rfl, hb⟩
              replace hL := hL.keep HZ.out hb
              clear hb v0 v1 v2 v3 u0 u1 u2 u3 f0
              obtain ⟨⟨v0, v1, v2, v3⟩, ⟨u0, u1, u2, u3⟩, f0⟩ := hL.cells
              go_wp2_with fail
              refine (lives5_any _).mono ?_; rintro e w9 ⟨rfl, hb⟩
              have hF := below_on hL.1 (Nat.le_of_eq HZ.out.symm) hb
              clear hb
              go_wp2_with fail
              go_ret
              exact ⟨by first | rfl | (refine retB ?_; simp; omega), by rw [HZ.out]; exact hF⟩
        · have hib : ib = false := by rcases h with h | h <;> exact h.1
          subst hib
          go_wp2_with fail
          refine (lives5_any _).mono ?_; rintro e w9 ⟨rfl, hb⟩
          have hF := below_on hL.1 (Nat.le_of_eq HZ.out.symm) hb
          clear hb
          go_wp2_with fail
          go_ret
          exact ⟨by first | rfl | (refine retB ?_; simp; omega), by rw [HZ.out]; exact hF⟩
      · have hia : ia = false := by rcases h with h | h <;> exact h.1
        subst hia
        go_wp2_with fail
        refine (lives5_any _).mono ?_; rintro e w9 ⟨rfl, hb⟩
        have hF := below_on hL.1 (Nat.le_of_eq HZ.out.symm) hb
        clear hb
        go_wp2_with fail
        go_ret
        exact ⟨by first | rfl | (refine retB ?_; simp; omega), by rw [HZ.out]; exact hF⟩
end Go.Proofs.Ytncemjpfdblecaa
