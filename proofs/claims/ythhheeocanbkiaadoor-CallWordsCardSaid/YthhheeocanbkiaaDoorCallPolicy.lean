/- Why a thread may not call: package call's answer. -/
import Derived.Test.YthhheeocanbkiaaDoorCallDo
import Derived.Test.YthhheeocanbkiaaDoorCallWords
import Derived.Test.YthhheeocanbkiaaDoorConfCalls
import Derived.Test.YthhheeocanbkiaaDoorErrsNew
import Derived.Deep.RegionHeld3
namespace Go.Proofs.YthhheeocanbkiaaDoor
set_option linter.unusedSimpArgs false
open Go.ChangeShapes Go.WideShapes Go.ChangeAt Go.RowKit

/-- The code of why a thread may not call. -/
def policyN (c : Nat → Int) (t op l r : Int) : Int := bif !(mayC op l r) || decide (lvl c t < 0) then 14 else bif writesB c t l || (looksB op && readsB c t l) then 0 else 12
theorem policyN_ok (c : Nat → Int) (t op l r : Int) : -9223372036854775808 ≤ policyN c t op l r ∧ policyN c t op l r ≤ 9223372036854775807 := by
  unfold policyN
  cases (!(mayC op l r) || decide (lvl c t < 0)) <;> cases (writesB c t l || (looksB op && readsB c t l)) <;> exact ⟨by decide, by decide⟩
theorem conf_call_new (c : Nat → Int) (op l key pa pb hd r : Int) (t u : TypeId) (w : World) : ∀ W, (w.alloc (.cells (rowOf 14 (ints c)) t)).alloc (.cells (callC op l key pa pb hd r) u) = W → Below w.heap.size w W ∧ Row W w.heap.size t 14 (ints c) ∧ CallIs W (w.heap.size + 1) op l key pa pb hd r := by
  rintro W rfl
  refine ⟨((Below.refl _ _).alloc (Nat.le_refl _) _).alloc (by simp) _, (Row.new w _ _ _ _ rfl).alloc _, ?_⟩
  have h := callIs_new op l key pa pb hd r u (w.alloc (.cells (rowOf 14 (ints c)) t))
  simpa using h
set_option maxRecDepth 100000 in
set_option maxHeartbeats 4000000 in
theorem kpolicy_any (c : Nat → Int) (hc : Ok64 c) (t op l key pa pb hd r : Int) (ht : -9223372036854775808 ≤ t ∧ t ≤ 9223372036854775807) (w : World) : Calls Tryd.prog 27 #[.agg (rowOf 14 (ints c)), .int .i64 t, (.agg #[.int .i64 op, .int .i64 l, .int .i64 key, .int .u64 pa, .int .u64 pb, .int .u64 hd, .int .i64 r])] w fun e w' => e = .returned (.int .i64 (policyN c t op l r)) ∧ Below w.heap.size w w' := by
  have f14 := fold14 c
  have C1 := Lib.hid (fun W => kMay_any op l key pa pb hd r W)
  have C2 := Lib.hid (fun W => cLevel_any c hc t ht W)
  have C3 := Lib.hid (fun W => cWrites_any c hc t l ht W)
  have C4 := Lib.hid (fun W => kLooks_any op W)
  have C5 := Lib.hid (fun W => cReads_any c hc t l ht W)
  have H : Hid (policyN c t op l r = bif !(mayC op l r) || decide (lvl c t < 0) then 14 else bif writesB c t l || (looksB op && readsB c t l) then 0 else 12) := Lib.hid rfl
  generalize policyN c t op l r = F at *
  generalize mayC op l r = M at *
  generalize lvl c t = V at *
  generalize writesB c t l = Wr at *
  generalize looksB op = Lk at *
  generalize readsB c t l = Rd at *
  go_enter Tryd.func27, Tryd.ntmps27
  go_upto_region 1 with fail
  generalize hW : World.alloc (World.alloc _ _) _ = W
  obtain ⟨hB, hr, hcl⟩ := conf_call_new c op l key pa pb hd r _ _ w W hW
  clear hW
  generalize hz : w.heap.size = a1 at *
  have HZ := Lib.hid hz; clear hz
  have HB := Lib.hid hB; have HR := Lib.hid hr; have HC := Lib.hid hcl
  obtain ⟨u0, u1, u2, u3, u4, u5, u6, u7, u8, u9, u10, u11, u12, u13⟩ := conf_cells hr
  obtain ⟨v0, v1, v2, v3, v4, v5, v6, v7⟩ := hcl
  clear hB hr
  go_wp2_with fail
  refine (C1.out _).mono ?_; rintro e w1 ⟨rfl, hb⟩
  have hB := below_on HB.out (Nat.le_of_eq HZ.out.symm) hb
  have hr := HR.out.keep hb
  have hcl := HC.out.keep hb
  clear hb HB HR HC u0 u1 u2 u3 u4 u5 u6 u7 u8 u9 u10 u11 u12 u13 v0 v1 v2 v3 v4 v5 v6 v7
  have HB := Lib.hid hB; have HR := Lib.hid hr; have HC := Lib.hid hcl
  obtain ⟨u0, u1, u2, u3, u4, u5, u6, u7, u8, u9, u10, u11, u12, u13⟩ := conf_cells hr
  obtain ⟨v0, v1, v2, v3, v4, v5, v6, v7⟩ := hcl
  clear hB hr
  cases M
  · go_wp2_with fail
    go_ret
    exact ⟨by rw [H.out]; rfl, by rw [HZ.out]; exact HB.out⟩
  go_wp2_with fail
  refine (C2.out _).mono ?_; rintro e w2 ⟨rfl, hb⟩
  have hB := below_on HB.out (Nat.le_of_eq HZ.out.symm) hb
  have hr := HR.out.keep hb
  have hcl := HC.out.keep hb
  clear hb HB HR HC u0 u1 u2 u3 u4 u5 u6 u7 u8 u9 u10 u11 u12 u13 v0 v1 v2 v3 v4 v5 v6 v7
  have HB := Lib.hid hB; have HR := Lib.hid hr; have HC := Lib.hid hcl
  obtain ⟨u0, u1, u2, u3, u4, u5, u6, u7, u8, u9, u10, u11, u12, u13⟩ := conf_cells hr
  obtain ⟨v0, v1, v2, v3, v4, v5, v6, v7⟩ := hcl
  clear hB hr
  by_cases hV : V < 0
  · rw [decide_eq_true hV] at H
    go_wp2_with fail
    go_ret
    exact ⟨by rw [H.out]; rfl, by rw [HZ.out]; exact HB.out⟩
  rw [decide_eq_false hV] at H
  go_wp2_with fail
  refine (C3.out _).mono ?_; rintro e w3 ⟨rfl, hb⟩
  have hB := below_on HB.out (Nat.le_of_eq HZ.out.symm) hb
  have hr := HR.out.keep hb
  have hcl := HC.out.keep hb
  clear hb HB HR HC u0 u1 u2 u3 u4 u5 u6 u7 u8 u9 u10 u11 u12 u13 v0 v1 v2 v3 v4 v5 v6 v7
  have HB := Lib.hid hB; have HR := Lib.hid hr; have HC := Lib.hid hcl
  obtain ⟨u0, u1, u2, u3, u4, u5, u6, u7, u8, u9, u10, u11, u12, u13⟩ := conf_cells hr
  obtain ⟨v0, v1, v2, v3, v4, v5, v6, v7⟩ := hcl
  clear hB hr
  cases Wr
  rotate_left
  · go_wp2_with fail
    go_ret
    exact ⟨by rw [H.out]; rfl, by rw [HZ.out]; exact HB.out⟩
  go_wp2_with fail
  refine (C4.out _).mono ?_; rintro e w4 ⟨rfl, rfl⟩
  cases Lk
  · go_wp2_with fail
    go_ret
    exact ⟨by rw [H.out]; rfl, by rw [HZ.out]; exact HB.out⟩
  go_wp2_with fail
  refine (C5.out _).mono ?_; rintro e w5 ⟨rfl, hb⟩
  have hB := below_on HB.out (Nat.le_of_eq HZ.out.symm) hb
  have hr := HR.out.keep hb
  have hcl := HC.out.keep hb
  clear hb HB HR HC u0 u1 u2 u3 u4 u5 u6 u7 u8 u9 u10 u11 u12 u13 v0 v1 v2 v3 v4 v5 v6 v7
  have HB := Lib.hid hB; have HR := Lib.hid hr; have HC := Lib.hid hcl
  obtain ⟨u0, u1, u2, u3, u4, u5, u6, u7, u8, u9, u10, u11, u12, u13⟩ := conf_cells hr
  obtain ⟨v0, v1, v2, v3, v4, v5, v6, v7⟩ := hcl
  clear hB hr
  cases Rd
  · go_wp2_with fail
    go_ret
    exact ⟨by rw [H.out]; rfl, by rw [HZ.out]; exact HB.out⟩
  · go_wp2_with fail
    go_ret
    exact ⟨by rw [H.out]; rfl, by rw [HZ.out]; exact HB.out⟩
/-- What New tells. -/
def newV (n : Int) (g : Nat) : Value := bif n == 0 then .nilIface else .iface 63 (.pointer (some ⟨g, 0, none⟩))
theorem new_ok (t l : Int) (s : List UInt8) (n : Int) (w : World) (bt : -9223372036854775808 ≤ t ∧ t ≤ 9223372036854775807) (bl : -9223372036854775808 ≤ l ∧ l ≤ 9223372036854775807) (bn : -9223372036854775808 ≤ n ∧ n ≤ 9223372036854775807) (hs : s.length ≤ 200) :
    Calls Tryd.prog 26 #[.int .i64 t, .int .i64 l, .string (sB s), .int .i64 n] w fun e w' => e = .returned (newV n w.heap.size) ∧ (n ≠ 0 → ErrsIs w' (.err w.heap.size t l s (.code n))) ∧ Below w.heap.size w w' := by
  by_cases h : n = 0
  · subst h
    exact (new_zero t l (sB s) w).mono fun e w' ⟨h1, h2⟩ => ⟨h1, fun h => absurd rfl h, h2 ▸ Below.refl _ _⟩
  · refine (new_any t l s n w h bt bl bn hs).mono fun e w' ⟨h1, h2, h3⟩ => ⟨?_, fun _ => h2, h3⟩
    have hq : (n == 0) = false := by simp [h]
    unfold newV
    rw [h1, hq]
    rfl
set_option maxRecDepth 100000 in
set_option maxHeartbeats 4000000 in
theorem kPolicy_any (c : Nat → Int) (hc : Ok64 c) (t op l key pa pb hd r : Int) (ht : -9223372036854775808 ≤ t ∧ t ≤ 9223372036854775807) (hl : -9223372036854775808 ≤ l ∧ l ≤ 9223372036854775807) (w : World) :
    Calls Tryd.prog 18 #[.agg (rowOf 14 (ints c)), .int .i64 t, (.agg #[.int .i64 op, .int .i64 l, .int .i64 key, .int .u64 pa, .int .u64 pb, .int .u64 hd, .int .i64 r])] w fun e w' => ∃ g, e = .returned (newV (policyN c t op l r) g) ∧ (policyN c t op l r ≠ 0 → ErrsIs w' (.err g t l (wordL op) (.code (policyN c t op l r)))) ∧ Below w.heap.size w w' := by
  have f14 := fold14 c
  have C1 := Lib.hid (fun W => kWord_any op W)
  have C2 := Lib.hid (fun W => kpolicy_any c hc t op l key pa pb hd r ht W)
  have C3 := Lib.hid (fun W => new_ok t l (wordL op) (policyN c t op l r) W ht hl (policyN_ok c t op l r) (Nat.le_trans (word_len op) (by decide)))
  have hp := policyN_ok c t op l r
  generalize policyN c t op l r = F at *
  generalize hwd : wordL op = wd at *
  generalize hsw : sB wd = sw at *
  clear hwd hsw hp
  go_enter Tryd.func18, Tryd.ntmps18
  go_upto_region 1 with fail
  generalize hW : World.alloc (World.alloc _ _) _ = W
  obtain ⟨hB, hr, hcl⟩ := conf_call_new c op l key pa pb hd r _ _ w W hW
  clear hW
  generalize hz : w.heap.size = a1 at *
  have HZ := Lib.hid hz; clear hz
  have hst : ∀ w' : World, Below a1 w w' → Row w' a1 46 14 (ints c) → CallIs w' (a1 + 1) op l key pa pb hd r → Below a1 w w' ∧ Row w' a1 46 14 (ints c) ∧ CallIs w' (a1 + 1) op l key pa pb hd r ∧ w'.cell? ⟨a1, 0, none⟩ = some (.int .i64 (c 0)) ∧ w'.cell? ⟨a1, 1, none⟩ = some (.int .i64 (c 1)) ∧ w'.cell? ⟨a1, 2, none⟩ = some (.int .i64 (c 2)) ∧ w'.cell? ⟨a1, 3, none⟩ = some (.int .i64 (c 3)) ∧ w'.cell? ⟨a1, 4, none⟩ = some (.int .i64 (c 4)) ∧ w'.cell? ⟨a1, 5, none⟩ = some (.int .i64 (c 5)) ∧ w'.cell? ⟨a1, 6, none⟩ = some (.int .i64 (c 6)) ∧ w'.cell? ⟨a1, 7, none⟩ = some (.int .i64 (c 7)) ∧ w'.cell? ⟨a1, 8, none⟩ = some (.int .i64 (c 8)) ∧ w'.cell? ⟨a1, 9, none⟩ = some (.int .i64 (c 9)) ∧ w'.cell? ⟨a1, 10, none⟩ = some (.int .i64 (c 10)) ∧ w'.cell? ⟨a1, 11, none⟩ = some (.int .i64 (c 11)) ∧ w'.cell? ⟨a1, 12, none⟩ = some (.int .i64 (c 12)) ∧ w'.cell? ⟨a1, 13, none⟩ = some (.int .i64 (c 13)) ∧ w'.cell? ⟨a1 + 1, 0, none⟩ = some (.int .i64 op) ∧ w'.cell? ⟨a1 + 1, 1, none⟩ = some (.int .i64 l) ∧ w'.cell? ⟨a1 + 1, 2, none⟩ = some (.int .i64 key) ∧ w'.cell? ⟨a1 + 1, 3, none⟩ = some (.int .u64 pa) ∧ w'.cell? ⟨a1 + 1, 4, none⟩ = some (.int .u64 pb) ∧ w'.cell? ⟨a1 + 1, 5, none⟩ = some (.int .u64 hd) ∧ w'.cell? ⟨a1 + 1, 6, none⟩ = some (.int .i64 r) := fun w' h1 h2 h3 => by
    obtain ⟨u0, u1, u2, u3, u4, u5, u6, u7, u8, u9, u10, u11, u12, u13⟩ := conf_cells h2
    exact ⟨h1, h2, h3, u0, u1, u2, u3, u4, u5, u6, u7, u8, u9, u10, u11, u12, u13, h3.c0, h3.c1, h3.c2, h3.c3, h3.c4, h3.c5, h3.c6⟩
  have hkeep : ∀ w1 w2 : World, Below w1.heap.size w1 w2 → (fun w' : World => Below a1 w w' ∧ Row w' a1 46 14 (ints c) ∧ CallIs w' (a1 + 1) op l key pa pb hd r ∧ w'.cell? ⟨a1, 0, none⟩ = some (.int .i64 (c 0)) ∧ w'.cell? ⟨a1, 1, none⟩ = some (.int .i64 (c 1)) ∧ w'.cell? ⟨a1, 2, none⟩ = some (.int .i64 (c 2)) ∧ w'.cell? ⟨a1, 3, none⟩ = some (.int .i64 (c 3)) ∧ w'.cell? ⟨a1, 4, none⟩ = some (.int .i64 (c 4)) ∧ w'.cell? ⟨a1, 5, none⟩ = some (.int .i64 (c 5)) ∧ w'.cell? ⟨a1, 6, none⟩ = some (.int .i64 (c 6)) ∧ w'.cell? ⟨a1, 7, none⟩ = some (.int .i64 (c 7)) ∧ w'.cell? ⟨a1, 8, none⟩ = some (.int .i64 (c 8)) ∧ w'.cell? ⟨a1, 9, none⟩ = some (.int .i64 (c 9)) ∧ w'.cell? ⟨a1, 10, none⟩ = some (.int .i64 (c 10)) ∧ w'.cell? ⟨a1, 11, none⟩ = some (.int .i64 (c 11)) ∧ w'.cell? ⟨a1, 12, none⟩ = some (.int .i64 (c 12)) ∧ w'.cell? ⟨a1, 13, none⟩ = some (.int .i64 (c 13)) ∧ w'.cell? ⟨a1 + 1, 0, none⟩ = some (.int .i64 op) ∧ w'.cell? ⟨a1 + 1, 1, none⟩ = some (.int .i64 l) ∧ w'.cell? ⟨a1 + 1, 2, none⟩ = some (.int .i64 key) ∧ w'.cell? ⟨a1 + 1, 3, none⟩ = some (.int .u64 pa) ∧ w'.cell? ⟨a1 + 1, 4, none⟩ = some (.int .u64 pb) ∧ w'.cell? ⟨a1 + 1, 5, none⟩ = some (.int .u64 hd) ∧ w'.cell? ⟨a1 + 1, 6, none⟩ = some (.int .i64 r)) w1 → (fun w' : World => Below a1 w w' ∧ Row w' a1 46 14 (ints c) ∧ CallIs w' (a1 + 1) op l key pa pb hd r ∧ w'.cell? ⟨a1, 0, none⟩ = some (.int .i64 (c 0)) ∧ w'.cell? ⟨a1, 1, none⟩ = some (.int .i64 (c 1)) ∧ w'.cell? ⟨a1, 2, none⟩ = some (.int .i64 (c 2)) ∧ w'.cell? ⟨a1, 3, none⟩ = some (.int .i64 (c 3)) ∧ w'.cell? ⟨a1, 4, none⟩ = some (.int .i64 (c 4)) ∧ w'.cell? ⟨a1, 5, none⟩ = some (.int .i64 (c 5)) ∧ w'.cell? ⟨a1, 6, none⟩ = some (.int .i64 (c 6)) ∧ w'.cell? ⟨a1, 7, none⟩ = some (.int .i64 (c 7)) ∧ w'.cell? ⟨a1, 8, none⟩ = some (.int .i64 (c 8)) ∧ w'.cell? ⟨a1, 9, none⟩ = some (.int .i64 (c 9)) ∧ w'.cell? ⟨a1, 10, none⟩ = some (.int .i64 (c 10)) ∧ w'.cell? ⟨a1, 11, none⟩ = some (.int .i64 (c 11)) ∧ w'.cell? ⟨a1, 12, none⟩ = some (.int .i64 (c 12)) ∧ w'.cell? ⟨a1, 13, none⟩ = some (.int .i64 (c 13)) ∧ w'.cell? ⟨a1 + 1, 0, none⟩ = some (.int .i64 op) ∧ w'.cell? ⟨a1 + 1, 1, none⟩ = some (.int .i64 l) ∧ w'.cell? ⟨a1 + 1, 2, none⟩ = some (.int .i64 key) ∧ w'.cell? ⟨a1 + 1, 3, none⟩ = some (.int .u64 pa) ∧ w'.cell? ⟨a1 + 1, 4, none⟩ = some (.int .u64 pb) ∧ w'.cell? ⟨a1 + 1, 5, none⟩ = some (.int .u64 hd) ∧ w'.cell? ⟨a1 + 1, 6, none⟩ = some (.int .i64 r)) w2 := fun w1 w2 hb h =>
    hst w2 (below_on h.1 (Nat.le_of_eq HZ.out.symm) hb) (h.2.1.keep hb) (h.2.2.1.keep hb)
  have HST := Lib.hid (hst W.drew hB.drew hr.drew ⟨hcl.lt, hcl.c0, hcl.c1, hcl.c2, hcl.c3, hcl.c4, hcl.c5, hcl.c6⟩)
  have HBB : Hid (∀ w', (fun w' : World => Below a1 w w' ∧ Row w' a1 46 14 (ints c) ∧ CallIs w' (a1 + 1) op l key pa pb hd r ∧ w'.cell? ⟨a1, 0, none⟩ = some (.int .i64 (c 0)) ∧ w'.cell? ⟨a1, 1, none⟩ = some (.int .i64 (c 1)) ∧ w'.cell? ⟨a1, 2, none⟩ = some (.int .i64 (c 2)) ∧ w'.cell? ⟨a1, 3, none⟩ = some (.int .i64 (c 3)) ∧ w'.cell? ⟨a1, 4, none⟩ = some (.int .i64 (c 4)) ∧ w'.cell? ⟨a1, 5, none⟩ = some (.int .i64 (c 5)) ∧ w'.cell? ⟨a1, 6, none⟩ = some (.int .i64 (c 6)) ∧ w'.cell? ⟨a1, 7, none⟩ = some (.int .i64 (c 7)) ∧ w'.cell? ⟨a1, 8, none⟩ = some (.int .i64 (c 8)) ∧ w'.cell? ⟨a1, 9, none⟩ = some (.int .i64 (c 9)) ∧ w'.cell? ⟨a1, 10, none⟩ = some (.int .i64 (c 10)) ∧ w'.cell? ⟨a1, 11, none⟩ = some (.int .i64 (c 11)) ∧ w'.cell? ⟨a1, 12, none⟩ = some (.int .i64 (c 12)) ∧ w'.cell? ⟨a1, 13, none⟩ = some (.int .i64 (c 13)) ∧ w'.cell? ⟨a1 + 1, 0, none⟩ = some (.int .i64 op) ∧ w'.cell? ⟨a1 + 1, 1, none⟩ = some (.int .i64 l) ∧ w'.cell? ⟨a1 + 1, 2, none⟩ = some (.int .i64 key) ∧ w'.cell? ⟨a1 + 1, 3, none⟩ = some (.int .u64 pa) ∧ w'.cell? ⟨a1 + 1, 4, none⟩ = some (.int .u64 pb) ∧ w'.cell? ⟨a1 + 1, 5, none⟩ = some (.int .u64 hd) ∧ w'.cell? ⟨a1 + 1, 6, none⟩ = some (.int .i64 r)) w' → Below a1 w w') := Lib.hid (fun w' h => h.1)
  clear hB hr hcl hst
  refine wp_region_noPanic ?_
  refine wp_region_held_drew (S := fun w' => Below a1 w w' ∧ Row w' a1 46 14 (ints c) ∧ CallIs w' (a1 + 1) op l key pa pb hd r ∧ w'.cell? ⟨a1, 0, none⟩ = some (.int .i64 (c 0)) ∧ w'.cell? ⟨a1, 1, none⟩ = some (.int .i64 (c 1)) ∧ w'.cell? ⟨a1, 2, none⟩ = some (.int .i64 (c 2)) ∧ w'.cell? ⟨a1, 3, none⟩ = some (.int .i64 (c 3)) ∧ w'.cell? ⟨a1, 4, none⟩ = some (.int .i64 (c 4)) ∧ w'.cell? ⟨a1, 5, none⟩ = some (.int .i64 (c 5)) ∧ w'.cell? ⟨a1, 6, none⟩ = some (.int .i64 (c 6)) ∧ w'.cell? ⟨a1, 7, none⟩ = some (.int .i64 (c 7)) ∧ w'.cell? ⟨a1, 8, none⟩ = some (.int .i64 (c 8)) ∧ w'.cell? ⟨a1, 9, none⟩ = some (.int .i64 (c 9)) ∧ w'.cell? ⟨a1, 10, none⟩ = some (.int .i64 (c 10)) ∧ w'.cell? ⟨a1, 11, none⟩ = some (.int .i64 (c 11)) ∧ w'.cell? ⟨a1, 12, none⟩ = some (.int .i64 (c 12)) ∧ w'.cell? ⟨a1, 13, none⟩ = some (.int .i64 (c 13)) ∧ w'.cell? ⟨a1 + 1, 0, none⟩ = some (.int .i64 op) ∧ w'.cell? ⟨a1 + 1, 1, none⟩ = some (.int .i64 l) ∧ w'.cell? ⟨a1 + 1, 2, none⟩ = some (.int .i64 key) ∧ w'.cell? ⟨a1 + 1, 3, none⟩ = some (.int .u64 pa) ∧ w'.cell? ⟨a1 + 1, 4, none⟩ = some (.int .u64 pb) ∧ w'.cell? ⟨a1 + 1, 5, none⟩ = some (.int .u64 hd) ∧ w'.cell? ⟨a1 + 1, 6, none⟩ = some (.int .i64 r)) (by kernel_rfl) (HST.out) (fun hHeld => ?_)
  (refine wpAnyH_take (i := 0) (v := ?_) rfl (by kernel_rfl) (by kernel_rfl) (by kernel_rfl) (fun _ _ _ h => h) (Or.inl ⟨by rfl, ?_⟩) hHeld ?_; rotate_left; focus (intro w hSw; (try dsimp only at hSw); go_simp; (try with_reducible rfl)))
  try simp only [Act.put, List.getElem_toArray, List.getElem_cons_succ, List.getElem_cons_zero, List.setIfInBounds_toArray, List.set_cons_zero, List.set_cons_succ]
  (refine wpAnyH_take (i := 1) (v := ?_) rfl (by kernel_rfl) (by kernel_rfl) (by kernel_rfl) (fun _ _ _ h => h) (Or.inl ⟨by rfl, ?_⟩) hHeld ?_; rotate_left; focus (intro w hSw; (try dsimp only at hSw); go_simp; (try with_reducible rfl)))
  try simp only [Act.put, List.getElem_toArray, List.getElem_cons_succ, List.getElem_cons_zero, List.setIfInBounds_toArray, List.set_cons_zero, List.set_cons_succ]
  (refine wpAnyH_take (i := 2) (v := ?_) rfl (by kernel_rfl) (by kernel_rfl) (by kernel_rfl) (fun _ _ _ h => h) (Or.inl ⟨by rfl, ?_⟩) hHeld ?_; rotate_left; focus (intro w hSw; (try dsimp only at hSw); go_simp; (try with_reducible rfl)))
  try simp only [Act.put, List.getElem_toArray, List.getElem_cons_succ, List.getElem_cons_zero, List.setIfInBounds_toArray, List.set_cons_zero, List.set_cons_succ]
  (refine wpAnyH_take (i := 3) (v := ?_) rfl (by kernel_rfl) (by kernel_rfl) (by kernel_rfl) (fun _ _ _ h => h) (Or.inl ⟨by rfl, ?_⟩) hHeld ?_; rotate_left; focus (intro w hSw; (try dsimp only at hSw); go_simp; (try with_reducible rfl)))
  try simp only [Act.put, List.getElem_toArray, List.getElem_cons_succ, List.getElem_cons_zero, List.setIfInBounds_toArray, List.set_cons_zero, List.set_cons_succ]
  (refine wpAnyH_take (i := 4) (v := ?_) rfl (by kernel_rfl) (by kernel_rfl) (by kernel_rfl) (fun _ _ _ h => h) (Or.inl ⟨by rfl, ?_⟩) hHeld ?_; rotate_left; focus (intro w hSw; (try dsimp only at hSw); go_simp; (try with_reducible rfl)))
  try simp only [Act.put, List.getElem_toArray, List.getElem_cons_succ, List.getElem_cons_zero, List.setIfInBounds_toArray, List.set_cons_zero, List.set_cons_succ]
  (refine wpAnyH_take (i := 6) (v := ?_) rfl (by kernel_rfl) (by kernel_rfl) (by kernel_rfl) (fun _ _ _ h => h) (Or.inl ⟨by rfl, ?_⟩) hHeld ?_; rotate_left; focus (intro w hSw; (try dsimp only at hSw); go_simp; (try with_reducible rfl)))
  try simp only [Act.put, List.getElem_toArray, List.getElem_cons_succ, List.getElem_cons_zero, List.setIfInBounds_toArray, List.set_cons_zero, List.set_cons_succ]
  (refine wpAnyH_take (i := 7) (v := ?_) rfl (by kernel_rfl) (by kernel_rfl) (by kernel_rfl) (fun _ _ _ h => h) (Or.inl ⟨by rfl, ?_⟩) hHeld ?_; rotate_left; focus (intro w hSw; (try dsimp only at hSw); go_simp; (try with_reducible rfl)))
  try simp only [Act.put, List.getElem_toArray, List.getElem_cons_succ, List.getElem_cons_zero, List.setIfInBounds_toArray, List.set_cons_zero, List.set_cons_succ]
  (refine wpAnyH_take (i := 8) (v := ?_) rfl (by kernel_rfl) (by kernel_rfl) (by kernel_rfl) (fun _ _ _ h => h) (Or.inl ⟨by rfl, ?_⟩) hHeld ?_; rotate_left; focus (intro w hSw; (try dsimp only at hSw); go_simp; (try with_reducible rfl)))
  try simp only [Act.put, List.getElem_toArray, List.getElem_cons_succ, List.getElem_cons_zero, List.setIfInBounds_toArray, List.set_cons_zero, List.set_cons_succ]
  (refine wpAnyH_ready (rs := [5]) (by kernel_rfl) (by simp) ?_; refine AllReadyH.cons rfl (fun K hK => ?_) AllReadyH.nil; go_simp; (first | (go_at_call 10; refine (C1.out _).mono ?_; rintro e w' ⟨rfl, hb⟩) | (go_at_call 27; refine (C2.out _).mono ?_; rintro e w' ⟨rfl, hb⟩) | (go_at_call 26; refine (C3.out _).mono ?_; rintro e w' ⟨rfl, R5, hb⟩; have HR5 := Lib.hid R5; clear R5)); (try go_wp2_with fail); refine hK.out _ _ ?_ (fun hHeld' => ?_); (focus (exact hkeep _ _ hb hHeld)); clear hK K; replace hHeld := hHeld'; clear hHeld')
  try simp only [Act.put, List.getElem_toArray, List.getElem_cons_succ, List.getElem_cons_zero, List.setIfInBounds_toArray, List.set_cons_zero, List.set_cons_succ]
  (refine wpAnyH_ready (rs := [9]) (by kernel_rfl) (by simp) ?_; refine AllReadyH.cons rfl (fun K hK => ?_) AllReadyH.nil; go_simp; (first | (go_at_call 10; refine (C1.out _).mono ?_; rintro e w' ⟨rfl, hb⟩) | (go_at_call 27; refine (C2.out _).mono ?_; rintro e w' ⟨rfl, hb⟩) | (go_at_call 26; refine (C3.out _).mono ?_; rintro e w' ⟨rfl, R5, hb⟩; have HR5 := Lib.hid R5; clear R5)); (try go_wp2_with fail); refine hK.out _ _ ?_ (fun hHeld' => ?_); (focus (exact hkeep _ _ hb hHeld)); clear hK K; replace hHeld := hHeld'; clear hHeld')
  try simp only [Act.put, List.getElem_toArray, List.getElem_cons_succ, List.getElem_cons_zero, List.setIfInBounds_toArray, List.set_cons_zero, List.set_cons_succ]
  (refine wpAnyH_ready (rs := [10]) (by kernel_rfl) (by simp) ?_; refine AllReadyH.cons rfl (fun K hK => ?_) AllReadyH.nil; go_simp; (first | (go_at_call 10; refine (C1.out _).mono ?_; rintro e w' ⟨rfl, hb⟩) | (go_at_call 27; refine (C2.out _).mono ?_; rintro e w' ⟨rfl, hb⟩) | (go_at_call 26; refine (C3.out _).mono ?_; rintro e w' ⟨rfl, R5, hb⟩; have HR5 := Lib.hid R5; clear R5)); (try go_wp2_with fail); refine hK.out _ _ ?_ (fun hHeld' => ?_); (focus (exact hkeep _ _ hb hHeld)); clear hK K; replace hHeld := hHeld'; clear hHeld')
  try simp only [Act.put, List.getElem_toArray, List.getElem_cons_succ, List.getElem_cons_zero, List.setIfInBounds_toArray, List.set_cons_zero, List.set_cons_succ]
  (refine wpAnyH_take (i := 11) (v := ?_) rfl (by kernel_rfl) (by kernel_rfl) (by kernel_rfl) (fun _ _ _ h => h) (Or.inl ⟨by rfl, ?_⟩) hHeld ?_; rotate_left; focus (intro w hSw; (try dsimp only at hSw); go_simp; (try with_reducible rfl)))
  try simp only [Act.put, List.getElem_toArray, List.getElem_cons_succ, List.getElem_cons_zero, List.setIfInBounds_toArray, List.set_cons_zero, List.set_cons_succ]
  refine wpAnyH_done (by kernel_rfl) ?_ _
  refine NoPanic.normal ?_
  have hb := HBB.out _ hHeld
  have HBF := Lib.hid hb
  clear hHeld hb
  go_wp2_with fail
  go_ret
  exact ⟨_, rfl, HR5.out, by rw [HZ.out]; exact HBF.out⟩
end Go.Proofs.YthhheeocanbkiaaDoor
