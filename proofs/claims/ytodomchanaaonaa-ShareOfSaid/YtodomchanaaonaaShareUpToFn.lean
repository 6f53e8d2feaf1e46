/- share.UpTo: its test, and the call. -/
import Derived.Test.YtodomchanaaonaaShareOfFn
import Derived.Test.YtodomchanaaonaaRef15UpTo
namespace Go.Proofs.Ytodomchanaaonaa
open Go.ChangeShapes Go.WideShapes Go.ChangeAt Go.RowKit

/-- Where a number stands first, from the i-th place on. -/
def hasI (l : List Int) (x : Int) : Bool := l.any (fun y => x == y)
theorem hasI_at {l : List Int} {x : Int} {k : Nat} (hk : k < l.length) (h : (x == l.getD k 0) = true) : hasI l x = true := by
  unfold hasI
  rw [List.any_eq_true]
  refine ⟨l.getD k 0, ?_, h⟩
  simp only [List.getD, List.getElem?_eq_getElem hk, Option.getD_some]
  exact List.getElem_mem hk
theorem hasI_none {l : List Int} {x : Int} (h : ∀ k, k < l.length → (x == l.getD k 0) = false) : hasI l x = false := by
  unfold hasI
  rw [List.any_eq_false]
  intro y hy
  obtain ⟨k, hk, rfl⟩ := List.getElem_of_mem hy
  have := h k hk
  simp only [List.getD, List.getElem?_eq_getElem hk, Option.getD_some] at this
  rw [this]; simp
theorem index_any (A : Option Addr) (c : Nat) (l : List Int) (hl : l.length ≤ 1000000) (x : Int) (w : World) (ha : RowIs w A l.length (fun i => .int .i64 (l.getD i 0))) :
    Calls Try.prog 26 #[.slice A l.length c, .int .i64 x] w fun e w' => ∃ r : Int, e = .returned (.int .i64 r) ∧ w = w' ∧ decide (0 ≤ r) = hasI l x := by
  have H := Lib.hid ha
  have HN := Lib.hid (fun h => hasI_none (l := l) (x := x) h)
  have HY := Lib.hid (fun k hk h => hasI_at (l := l) (x := x) (k := k) hk h)
  clear ha
  generalize hasI l x = b at *
  generalize hn : l.length = n at *
  go_enter Try.func26, Try.ntmps26
  go_wp2_with fail
  go_loop [8] (fun i => ∃ k : Nat, i = .int .i64 k ∧ k ≤ n ∧ ∀ j, j < k → (x == l.getD j 0) = false) (fun i => n - (intOf i).toNat)
  case atStart => exact ⟨0, rfl, Nat.zero_le _, fun j hj => absurd hj (by omega)⟩
  case round =>
    obtain ⟨k, rfl, hk, hno⟩ := hrel
    by_cases hlt : k < n
    · obtain ⟨b1, off1, rfl, hb1, x1⟩ := H.out (by omega)
      have p0 : w.cell? ⟨b1, off1 + k, none⟩ = some (.int .i64 (l.getD k 0)) := x1 k hlt
      have HNO := Lib.hid hno
      have HYk := Lib.hid (HY.out k hlt)
      clear x1 hno HN HY H
      generalize hy : l.getD k 0 = y at *
      have HYY := Lib.hid hy
      clear hy
      by_cases he : x = y
      · subst he
        have HB := Lib.hid (HYk.out (by simp))
        clear HYk HNO HYY
        go_wp2_with fail
        go_ret
        exact ⟨_, rfl, rfl, by rw [HB.out]; exact decide_eq_true (by omega)⟩
      · go_wp2_with fail
        go_round
        case rel => exact ⟨k + 1, by go_num, by omega, fun j hj => (Nat.lt_succ_iff_lt_or_eq.1 hj).elim (HNO.out j) (fun e => by subst e; rw [HYY.out]; simpa using he)⟩
        case measure => simp [intOf]; omega
    · obtain rfl : k = n := by omega
      have HNk := Lib.hid (HN.out hno)
      clear hno
      go_wp2_with fail
      go_ret
      exact ⟨_, rfl, rfl, by rw [HNk.out]; rfl⟩
theorem contains_any (A : Option Addr) (c : Nat) (l : List Int) (hl : l.length ≤ 1000000) (x : Int) (w : World) (ha : RowIs w A l.length (fun i => .int .i64 (l.getD i 0))) :
    Calls Try.prog 22 #[.slice A l.length c, .int .i64 x] w fun e w' => e = .returned (.bool (hasI l x)) ∧ w = w' := by
  have C := Lib.hid (index_any A c l hl x w ha)
  clear ha hl
  generalize hasI l x = b at *
  generalize l.length = n at *
  go_enter Try.func22, Try.ntmps22
  go_upto_region 1 with fail
  go_wp2_with (go_at_call 26; refine C.out.mono ?_; rintro e w' ⟨r, rfl, rfl, hr⟩)
  go_ret
  exact ⟨by rw [← hr]; rfl, rfl⟩
theorem hasI_thrs (c : Nat → Int) (l t : Int) : hasI (thrs c 0 l) t = (decide (0 ≤ lvl c t) && decide (lvl c t ≤ l)) := by
  rw [Bool.eq_iff_iff]
  unfold hasI thrs
  rw [List.any_eq_true, Bool.and_eq_true, decide_eq_true_eq, decide_eq_true_eq]
  by_cases hm : mayB c = true
  · rw [if_pos hm]
    constructor
    · rintro ⟨y, hy, he⟩
      unfold thr at hy
      rw [List.mem_map] at hy
      obtain ⟨k, hk, rfl⟩ := hy
      rw [List.mem_filter, List.mem_range] at hk
      obtain rfl : t = (k : Int) := by simpa using he
      rw [lvl_yes hm (by omega) (by omega)]
      have h2 := hk.2
      unfold withinB at h2
      simp only [Bool.and_eq_true, decide_eq_true_eq] at h2
      exact ⟨h2.1, h2.2⟩
    · rintro ⟨h1, h2⟩
      rcases lvl_bounds c t with h | h
      · omega
      · refine ⟨t, ?_, by simp⟩
        unfold thr
        rw [List.mem_map]
        refine ⟨t.toNat, ?_, by show ((t.toNat : Nat) : Int) = t; omega⟩
        rw [List.mem_filter, List.mem_range]
        refine ⟨by omega, ?_⟩
        unfold withinB
        simp only [Bool.and_eq_true, decide_eq_true_eq]
        rw [← h.2.2.2.2.2.2]
        exact ⟨h1, h2⟩
  · rw [if_neg hm]
    constructor
    · rintro ⟨y, hy, _⟩
      cases hy
    · rintro ⟨h1, h2⟩
      rw [lvl_no (fun h => hm h.1)] at h1
      omega
theorem thrs_len (c : Nat → Int) (l : Int) (hc : mayB c = true → c 1 ≤ 1000) : (thrs c 0 l).length ≤ 1000000 := by
  unfold thrs
  by_cases hm : mayB c = true
  · rw [if_pos hm]
    have := thr_len c 0 l (c 1).toNat
    have := hc hm
    omega
  · rw [if_neg hm]; simp
theorem upTest_any (o : Opr) (Bs d : Nat) (A : Option Addr) (l : List Int) (hl : l.length ≤ 1000000) (w : World) (hs : w.cell? ⟨Bs, 0, none⟩ = some (.slice A l.length d)) (hb : Bs < w.heap.size) (ha : RowIs w A l.length (fun i => .int .i64 (l.getD i 0))) :
    Calls Try.prog 21 #[.agg (opF o).toArray, .pointer (some ⟨Bs, 0, none⟩)] w fun e w' => e = .returned (.bool (hasI l o.th)) ∧ Below w.heap.size w w' := by
  have C := Lib.hid (fun W h => contains_any A d l hl o.th W h)
  generalize hasI l o.th = b at *
  generalize hn : l.length = n at *
  have HX := Lib.hid (And.intro hs (And.intro hb ha))
  clear hs hb ha
  go_enter Try.func21, Try.ntmps21
  go_upto_region 1 with fail
  generalize hW : World.alloc _ _ = W
  obtain ⟨hB, hx⟩ := one_cells _ _ _ W hW
  have q0 : W.cell? ⟨w.heap.size, 0, none⟩ = some (.int .i64 o.th) := hx.cell 0
  have k1 : W.cell? ⟨Bs, 0, none⟩ = some (.slice A n d) := (hB.cell (p := ⟨Bs, 0, none⟩) HX.out.2.1).trans HX.out.1
  have CW := Lib.hid (C.out W (HX.out.2.2.below hB))
  have HB := Lib.hid hB
  clear hW hx hB C
  generalize o.th = t at *
  go_wp2_with (go_at_call 22; refine CW.out.mono ?_; rintro e w' ⟨rfl, rfl⟩)
  go_ret
  exact ⟨rfl, HB.out⟩
set_option maxRecDepth 100000 in
theorem sUpToFn_any (A : Option Addr) (d : Nat) (L : List Opr) (hL : L.length ≤ 1000000) (c : Nat → Int) (hc : Ok64 c) (l : Int) (w : World) (ha : LiesC w A (flatF opF L)) :
    Calls Try.prog 12 #[.slice A L.length d, .agg (rowOf 14 (ints c)), .int .i64 l] w fun e w' => ∃ v, e = .returned v ∧ LnIs w' v (keepUp (uptoB c l) L L.length).length (flatF opF (keepUp (uptoB c l) L L.length)) ∧ Far w.heap.size v ∧ Below w.heap.size w w' := by
  have f14 := fold14 c
  have HO := Lib.hid (fun B cap ts (hts : ts.length ≤ 1000000) (o : Opr) g w1 h1 h2 h3 => upTest_any o g cap B ts hts w1 h1 h2 h3)
  have C1 := Lib.hid (cUpTo_any c hc l)
  have HL := Lib.hid (fun W h => those_any 21 #[.pointer (some ⟨W, 0, none⟩)] (enters_of Try.func21 (by kernel_rfl) rfl) (uptoB c l) A d L hL h)
  have hlen := thrs_len c l fun h => by have := (may_bounds h).2.1; omega
  have HT := Lib.hid (show ∀ o : Opr, hasI (thrs c 0 l) o.th = uptoB c l o from fun o => hasI_thrs c l o.th)
  generalize uptoB c l = p at *
  generalize thrs c 0 l = ts at *
  have HA := Lib.hid ha
  clear ha hc hL
  generalize L.length = n at *
  go_enter Try.func12, Try.ntmps12
  go_upto_region 1 with fail
  generalize hW : World.alloc _ _ = W
  have hr : Row W w.heap.size 41 14 (ints c) := by rw [← hW]; exact Row.new _ _ _ _ _ rfl
  have hB : Below w.heap.size w W := by rw [← hW]; exact (Below.refl _ _).alloc (Nat.le_refl _) _
  clear hW
  obtain ⟨u0, u1, u2, u3, u4, u5, u6, u7, u8, u9, u10, u11, u12, u13⟩ := conf_cells hr
  have HB := Lib.hid hB
  clear hB hr
  go_upto_region 2 with (go_at_call 20; refine (C1.out _).mono ?_; rintro e w1 ⟨B, cap, rfl, h1, h2⟩)
  have HB1 : Hid (Below w.heap.size w w1) := Lib.hid (HB.out.trans (h2.mono HB.out.size))
  obtain ⟨W2, hW2⟩ : ∃ W2, w1.alloc (.cells #[.slice B ts.length cap] 52) = W2 := ⟨_, rfl⟩
  have hc2 : W2.cell? ⟨w1.heap.size, 0, none⟩ = some (.slice B ts.length cap) := by rw [← hW2]; exact cell_of_row _ _ _ _ _ _ (heap_alloc_new w1 _)
  have hb2 : Below w1.heap.size w1 W2 := by rw [← hW2]; exact (Below.refl _ _).alloc (Nat.le_refl _) _
  have hs2 : w1.heap.size < W2.heap.size := by rw [← hW2]; simp
  have HB2 : Hid (Below w.heap.size w W2) := Lib.hid (HB1.out.trans (hb2.mono HB1.out.size))
  have CT := Lib.hid (HL.out w1.heap.size W2 (fun i W _ hbW => by
    rw [← HT.out]
    exact HO.out B cap ts hlen (oprN L i) w1.heap.size W ((hbW.cell (p := ⟨w1.heap.size, 0, none⟩) hs2).trans hc2) (by have := hbW.size; omega) ((h1.below hb2).below hbW)) (HA.out.keep HB2.out))
  clear u0 u1 u2 u3 u4 u5 u6 u7 u8 u9 u10 u11 u12 u13 h1 h2 hc2 hb2 hs2 HT HL HO C1
  rw [hW2]
  go_wp2_with (go_at_call 18; refine CT.out.mono ?_; rintro e w3 ⟨v, rfl, k1, k2, k3⟩)
  go_ret
  exact ⟨_, rfl, k1, k2.mono HB2.out.size, HB2.out.trans (k3.mono HB2.out.size)⟩
end Go.Proofs.Ytodomchanaaonaa
