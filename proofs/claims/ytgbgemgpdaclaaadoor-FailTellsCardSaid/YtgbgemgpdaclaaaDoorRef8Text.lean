/- The document's answers of layer 8: the text of an error. -/
import Derived.Test.YtgbgemgpdaclaaaDoorRef8
import Derived.Deep.RegionHeld3
namespace Go.Proofs.YtgbgemgpdaclaaaDoor
set_option linter.unusedSimpArgs false
open Go.ChangeShapes Go.WideShapes Go.RowKit

/-- What an error is made by. -/
structure ErrS where
  t : Int
  l : Int
  what : List UInt8
  c : Int
  notes : Nat → List UInt8
def errV (v : Value) (e : ErrS) : Nat → Value
  | 0 => .int .i64 e.t
  | 1 => .int .i64 e.l
  | 2 => .string (sB e.what)
  | 3 => .int .i64 e.c
  | _ => v
theorem err_cells {w : World} {g : Nat} {t : TypeId} {v : Value} {e : ErrS} (hr : Row w g t 5 (errV v e)) : w.cell? ⟨g, 0, none⟩ = some (.int .i64 e.t) ∧ w.cell? ⟨g, 1, none⟩ = some (.int .i64 e.l) ∧ w.cell? ⟨g, 2, none⟩ = some (.string (sB e.what)) ∧ w.cell? ⟨g, 3, none⟩ = some (.int .i64 e.c) ∧ w.cell? ⟨g, 4, none⟩ = some v :=
  ⟨hr.cell (i := 0) (by omega), hr.cell (i := 1) (by omega), hr.cell (i := 2) (by omega), hr.cell (i := 3) (by omega), hr.cell (i := 4) (by omega)⟩
/-- The innermost text. -/
def baseL (e : ErrS) : List UInt8 := [116, 104, 114, 101, 97, 100, 32] ++ numL e.t ++ [32, 108, 101, 118, 101, 108, 32] ++ numL e.l ++ [32] ++ e.what ++ [58, 32] ++ nameL e.c
/-- .. behind k notes. -/
def textK (e : ErrS) : Nat → List UInt8
  | 0 => baseL e
  | k + 1 => e.notes k ++ [58, 32] ++ textK e k
def textL (e : ErrS) (n : Nat) : List UInt8 := bif decide (e.c = 0) then [111, 107] else textK e n
theorem num_len (n : Int) (h0 : -9223372036854775808 ≤ n) (h1 : n ≤ 9223372036854775807) : (numL n).length ≤ 21 := by
  have h := dec_len 19 n.natAbs (by omega)
  unfold numL
  cases decide (n < 0)
  · exact Nat.le_succ_of_le h
  · exact Nat.succ_le_succ h
theorem name_len (c : Int) : (nameL c).length ≤ 6 := by
  unfold nameL
  cases hd : decide (0 ≤ c ∧ c < 16)
  · show List.length [119, 104, 97, 116] ≤ 6
    decide
  · have h := of_decide_eq_true hd
    have h2 : c.toNat < 16 := by omega
    have : ∀ k, k < 16 → (namesL.getD k []).length ≤ 6 := by decide
    exact this _ h2

structure OkE (e : ErrS) (n : Nat) : Prop where
  t0 : -9223372036854775808 ≤ e.t
  t1 : e.t ≤ 9223372036854775807
  l0 : -9223372036854775808 ≤ e.l
  l1 : e.l ≤ 9223372036854775807
  c0 : -9223372036854775808 ≤ e.c
  c1 : e.c ≤ 9223372036854775807
  what : e.what.length ≤ 200
  n40 : n ≤ 40
  notes : ∀ k, k < n → (e.notes k).length ≤ 200
theorem base_len {e : ErrS} {n : Nat} (he : OkE e n) : (baseL e).length ≤ 265 := by
  have h1 := num_len _ he.t0 he.t1
  have h2 := num_len _ he.l0 he.l1
  have h3 := name_len e.c
  have h4 := he.what
  unfold baseL
  simp only [List.length_append, List.length_cons, List.length_nil]
  omega
theorem text_len {e : ErrS} {n : Nat} (he : OkE e n) : ∀ k, k ≤ n → (sB (textK e k)).size ≤ 265 + 202 * k
  | 0, _ => by rw [sB_size]; exact base_len he
  | k + 1, hk => by
    have h := text_len he k (by omega)
    have h2 := he.notes k (by omega)
    rw [sB_size] at *
    show (e.notes k ++ [58, 32] ++ textK e k).length ≤ _
    simp only [List.length_append, List.length_cons, List.length_nil]
    omega

set_option maxHeartbeats 4000000 in
theorem rText_any (A : Option Addr) (n cA : Nat) (e : ErrS) (he : OkE e n) (w : World) (hr : RowIs w A n (fun i => .string (sB (e.notes i)))) : Calls Tryd.prog 11 #[.agg (rowOf 5 (errV (.slice A n cA) e))] w
    fun r w' => r = .returned (.string (sB (textL e n))) ∧ Below w.heap.size w w' := by
  have C1 := Lib.hid (fun W => number_any e.t he.t0 he.t1 W)
  have C2 := Lib.hid (fun W => number_any e.l he.l0 he.l1 W)
  have C3 := Lib.hid (fun W => rName_any e.c he.c0 he.c1 W)
  go_enter Tryd.func11, Tryd.ntmps11
  go_upto_region 1 with fail
  generalize hW : World.alloc _ _ = W
  have hx : Row W w.heap.size 25 5 (errV (.slice A n cA) e) := by rw [← hW]; exact Row.new _ _ _ _ _ rfl
  have hB : Below w.heap.size w W := by rw [← hW]; exact (Below.refl _ _).alloc (Nat.le_refl _) _
  clear hW
  generalize hz : w.heap.size = a1 at *
  have HZ := Lib.hid hz; clear hz
  have HB := Lib.hid hB; have HE := Lib.hid he
  obtain ⟨u0, u1, u2, u3, u4⟩ := err_cells hx
  clear hx hB he
  by_cases hc : e.c = 0
  · have e1 : Hid (textL e n = [111, 107]) := Lib.hid (by unfold textL; rw [decide_eq_true hc]; rfl)
    rw [hc] at u3
    clear hc
    go_wp2_with fail
    go_ret
    exact ⟨by rw [e1.out]; rfl, by rw [HZ.out]; exact HB.out⟩
  · have e1 : Hid (textL e n = textK e n) := Lib.hid (by unfold textL; rw [decide_eq_false hc]; rfl)
    obtain ⟨z0, z1, z2, z3, z4⟩ : (sB (numL e.t)).size ≤ 21 ∧ (sB (numL e.l)).size ≤ 21 ∧ (sB e.what).size ≤ 200 ∧ (sB (nameL e.c)).size ≤ 6 ∧ True :=
      ⟨by rw [sB_size]; exact num_len _ HE.out.t0 HE.out.t1, by rw [sB_size]; exact num_len _ HE.out.l0 HE.out.l1, by rw [sB_size]; exact HE.out.what, by rw [sB_size]; exact name_len _, trivial⟩
    clear z4
    generalize hq1 : sB (numL e.t) = q1 at *
    generalize hq2 : sB (numL e.l) = q2 at *
    generalize hq3 : sB e.what = q3 at *
    generalize hq4 : sB (nameL e.c) = q4 at *
    have HQ := Lib.hid (show _ ∧ _ ∧ _ ∧ _ from ⟨hq1, hq2, hq3, hq4⟩)
    clear hq1 hq2 hq3 hq4
    go_upto_region 3 with fail
    have hst : (fun w' : World => Below a1 w w' ∧ w'.cell? ⟨a1, 0, none⟩ = some (.int .i64 e.t) ∧ w'.cell? ⟨a1, 1, none⟩ = some (.int .i64 e.l) ∧ w'.cell? ⟨a1, 2, none⟩ = some (.string q3) ∧ w'.cell? ⟨a1, 3, none⟩ = some (.int .i64 e.c) ∧ w'.cell? ⟨a1, 4, none⟩ = some (.slice A n cA)) W.drew := ⟨HB.out.drew, u0, u1, u2, u3, u4⟩
    have hkeep : ∀ w1 w2 : World, Below w1.heap.size w1 w2 → (fun w' : World => Below a1 w w' ∧ w'.cell? ⟨a1, 0, none⟩ = some (.int .i64 e.t) ∧ w'.cell? ⟨a1, 1, none⟩ = some (.int .i64 e.l) ∧ w'.cell? ⟨a1, 2, none⟩ = some (.string q3) ∧ w'.cell? ⟨a1, 3, none⟩ = some (.int .i64 e.c) ∧ w'.cell? ⟨a1, 4, none⟩ = some (.slice A n cA)) w1 → (fun w' : World => Below a1 w w' ∧ w'.cell? ⟨a1, 0, none⟩ = some (.int .i64 e.t) ∧ w'.cell? ⟨a1, 1, none⟩ = some (.int .i64 e.l) ∧ w'.cell? ⟨a1, 2, none⟩ = some (.string q3) ∧ w'.cell? ⟨a1, 3, none⟩ = some (.int .i64 e.c) ∧ w'.cell? ⟨a1, 4, none⟩ = some (.slice A n cA)) w2 := fun w1 w2 hb h =>
      ⟨below_on h.1 (Nat.le_of_eq HZ.out.symm) hb, cell_keep hb h.2.1, cell_keep hb h.2.2.1, cell_keep hb h.2.2.2.1, cell_keep hb h.2.2.2.2.1, cell_keep hb h.2.2.2.2.2⟩
    have HST := Lib.hid hst
    clear hst u0 u1 u2 u3 u4
    have y1 : (9223372036854775807 < 7 + q1.size) = False := eq_false (by omega)
    generalize hL1 : (⟨#[116, 104, 114, 101, 97, 100, 32]⟩ : ByteArray) ++ q1 = s1 at *
    have x1 : s1.size ≤ 28 := by rw [← hL1, ByteArray.size_append]; show 7 + q1.size ≤ 28; omega
    have y2 : (9223372036854775807 < s1.size + 7) = False := eq_false (by omega)
    generalize hL2 : s1 ++ (⟨#[32, 108, 101, 118, 101, 108, 32]⟩ : ByteArray) = s2 at *
    have x2 : s2.size ≤ 35 := by rw [← hL2, ByteArray.size_append]; show s1.size + 7 ≤ 35; omega
    have y3 : (9223372036854775807 < s2.size + q2.size) = False := eq_false (by omega)
    generalize hL3 : s2 ++ q2 = s3 at *
    have x3 : s3.size ≤ 56 := by rw [← hL3, ByteArray.size_append]; show s2.size + q2.size ≤ 56; omega
    have y4 : (9223372036854775807 < s3.size + 1) = False := eq_false (by omega)
    generalize hL4 : s3 ++ (⟨#[32]⟩ : ByteArray) = s4 at *
    have x4 : s4.size ≤ 57 := by rw [← hL4, ByteArray.size_append]; show s3.size + 1 ≤ 57; omega
    have y5 : (9223372036854775807 < s4.size + q3.size) = False := eq_false (by omega)
    generalize hL5 : s4 ++ q3 = s5 at *
    have x5 : s5.size ≤ 257 := by rw [← hL5, ByteArray.size_append]; show s4.size + q3.size ≤ 257; omega
    have y6 : (9223372036854775807 < s5.size + 2) = False := eq_false (by omega)
    generalize hL6 : s5 ++ (⟨#[58, 32]⟩ : ByteArray) = s6 at *
    have x6 : s6.size ≤ 259 := by rw [← hL6, ByteArray.size_append]; show s5.size + 2 ≤ 259; omega
    have y7 : (9223372036854775807 < s6.size + q4.size) = False := eq_false (by omega)
    generalize hL7 : s6 ++ q4 = s7 at *
    have x7 : s7.size ≤ 265 := by rw [← hL7, ByteArray.size_append]; show s6.size + q4.size ≤ 265; omega
    have HB0 : Hid (s7 = sB (textK e 0)) := Lib.hid (by
      rw [← hL7, ← hL6, ← hL5, ← hL4, ← hL3, ← hL2, ← hL1, ← HQ.out.1, ← HQ.out.2.1, ← HQ.out.2.2.1, ← HQ.out.2.2.2]
      show _ = sB (baseL e)
      unfold baseL
      simp only [← sB_append]
      rfl)
    have HLen := Lib.hid (fun k hk => text_len HE.out k hk)
    refine wp_region_noPanic ?_
    refine wp_region_held_drew (S := fun w' => Below a1 w w' ∧ w'.cell? ⟨a1, 0, none⟩ = some (.int .i64 e.t) ∧ w'.cell? ⟨a1, 1, none⟩ = some (.int .i64 e.l) ∧ w'.cell? ⟨a1, 2, none⟩ = some (.string q3) ∧ w'.cell? ⟨a1, 3, none⟩ = some (.int .i64 e.c) ∧ w'.cell? ⟨a1, 4, none⟩ = some (.slice A n cA)) (by kernel_rfl) (HST.out) (fun hHeld => ?_)
    (refine wpAnyH_take (i := 0) (v := ?_) rfl (by kernel_rfl) (by kernel_rfl) (by kernel_rfl) (fun _ _ _ h => h) (Or.inl ⟨by rfl, ?_⟩) hHeld ?_; rotate_left; focus (intro w hSw; (try dsimp only at hSw); go_simp; (try with_reducible rfl)))
    try simp only [Act.put, List.getElem_toArray, List.getElem_cons_succ, List.getElem_cons_zero, List.setIfInBounds_toArray, List.set_cons_zero, List.set_cons_succ]
    (refine wpAnyH_take (i := 1) (v := ?_) rfl (by kernel_rfl) (by kernel_rfl) (by kernel_rfl) (fun _ _ _ h => h) (Or.inl ⟨by rfl, ?_⟩) hHeld ?_; rotate_left; focus (intro w hSw; (try dsimp only at hSw); go_simp; (try with_reducible rfl)))
    try simp only [Act.put, List.getElem_toArray, List.getElem_cons_succ, List.getElem_cons_zero, List.setIfInBounds_toArray, List.set_cons_zero, List.set_cons_succ]
    (refine wpAnyH_take (i := 5) (v := ?_) rfl (by kernel_rfl) (by kernel_rfl) (by kernel_rfl) (fun _ _ _ h => h) (Or.inl ⟨by rfl, ?_⟩) hHeld ?_; rotate_left; focus (intro w hSw; (try dsimp only at hSw); go_simp; (try with_reducible rfl)))
    try simp only [Act.put, List.getElem_toArray, List.getElem_cons_succ, List.getElem_cons_zero, List.setIfInBounds_toArray, List.set_cons_zero, List.set_cons_succ]
    (refine wpAnyH_take (i := 6) (v := ?_) rfl (by kernel_rfl) (by kernel_rfl) (by kernel_rfl) (fun _ _ _ h => h) (Or.inl ⟨by rfl, ?_⟩) hHeld ?_; rotate_left; focus (intro w hSw; (try dsimp only at hSw); go_simp; (try with_reducible rfl)))
    try simp only [Act.put, List.getElem_toArray, List.getElem_cons_succ, List.getElem_cons_zero, List.setIfInBounds_toArray, List.set_cons_zero, List.set_cons_succ]
    (refine wpAnyH_take (i := 10) (v := ?_) rfl (by kernel_rfl) (by kernel_rfl) (by kernel_rfl) (fun _ _ _ h => h) (Or.inl ⟨by rfl, ?_⟩) hHeld ?_; rotate_left; focus (intro w hSw; (try dsimp only at hSw); go_simp; (try with_reducible rfl)))
    try simp only [Act.put, List.getElem_toArray, List.getElem_cons_succ, List.getElem_cons_zero, List.setIfInBounds_toArray, List.set_cons_zero, List.set_cons_succ]
    (refine wpAnyH_take (i := 11) (v := ?_) rfl (by kernel_rfl) (by kernel_rfl) (by kernel_rfl) (fun _ _ _ h => h) (Or.inl ⟨by rfl, ?_⟩) hHeld ?_; rotate_left; focus (intro w hSw; (try dsimp only at hSw); go_simp; (try with_reducible rfl)))
    try simp only [Act.put, List.getElem_toArray, List.getElem_cons_succ, List.getElem_cons_zero, List.setIfInBounds_toArray, List.set_cons_zero, List.set_cons_succ]
    (refine wpAnyH_take (i := 14) (v := ?_) rfl (by kernel_rfl) (by kernel_rfl) (by kernel_rfl) (fun _ _ _ h => h) (Or.inl ⟨by rfl, ?_⟩) hHeld ?_; rotate_left; focus (intro w hSw; (try dsimp only at hSw); go_simp; (try with_reducible rfl)))
    try simp only [Act.put, List.getElem_toArray, List.getElem_cons_succ, List.getElem_cons_zero, List.setIfInBounds_toArray, List.set_cons_zero, List.set_cons_succ]
    (refine wpAnyH_take (i := 15) (v := ?_) rfl (by kernel_rfl) (by kernel_rfl) (by kernel_rfl) (fun _ _ _ h => h) (Or.inl ⟨by rfl, ?_⟩) hHeld ?_; rotate_left; focus (intro w hSw; (try dsimp only at hSw); go_simp; (try with_reducible rfl)))
    try simp only [Act.put, List.getElem_toArray, List.getElem_cons_succ, List.getElem_cons_zero, List.setIfInBounds_toArray, List.set_cons_zero, List.set_cons_succ]
    (refine wpAnyH_ready (rs := [2]) (by kernel_rfl) (by simp) ?_; refine AllReadyH.cons rfl (fun K hK => ?_) AllReadyH.nil; go_simp; (first | (go_at_call 25; with_reducible refine (C1.out _).mono ?_; rintro r w' ⟨rfl, rfl⟩) | (go_at_call 25; with_reducible refine (C2.out _).mono ?_; rintro r w' ⟨rfl, rfl⟩) | (go_at_call 15; with_reducible refine (C3.out _).mono ?_; rintro r w' ⟨rfl, hb⟩)); (try go_wp2_with fail); refine hK.out _ _ ?_ (fun hHeld' => ?_); (focus (first | exact hkeep _ _ hb hHeld | exact hHeld)); clear hK K; replace hHeld := hHeld'; clear hHeld')
    try simp only [Act.put, List.getElem_toArray, List.getElem_cons_succ, List.getElem_cons_zero, List.setIfInBounds_toArray, List.set_cons_zero, List.set_cons_succ]
    (refine wpAnyH_take (i := 3) (v := ?_) rfl (by kernel_rfl) (by kernel_rfl) (by kernel_rfl) (fun _ _ _ h => h) (Or.inl ⟨by rfl, ?_⟩) hHeld ?_; rotate_left; focus (intro w hSw; (try dsimp only at hSw); go_simp; (try with_reducible rfl)))
    try simp only [Act.put, List.getElem_toArray, List.getElem_cons_succ, List.getElem_cons_zero, List.setIfInBounds_toArray, List.set_cons_zero, List.set_cons_succ]
    (refine wpAnyH_take (i := 4) (v := ?_) rfl (by kernel_rfl) (by kernel_rfl) (by kernel_rfl) (fun _ _ _ h => h) (Or.inl ⟨by rfl, ?_⟩) hHeld ?_; rotate_left; focus (intro w hSw; (try dsimp only at hSw); go_simp; (try with_reducible rfl)))
    try simp only [Act.put, List.getElem_toArray, List.getElem_cons_succ, List.getElem_cons_zero, List.setIfInBounds_toArray, List.set_cons_zero, List.set_cons_succ]
    (refine wpAnyH_ready (rs := [7]) (by kernel_rfl) (by simp) ?_; refine AllReadyH.cons rfl (fun K hK => ?_) AllReadyH.nil; go_simp; (first | (go_at_call 25; with_reducible refine (C1.out _).mono ?_; rintro r w' ⟨rfl, rfl⟩) | (go_at_call 25; with_reducible refine (C2.out _).mono ?_; rintro r w' ⟨rfl, rfl⟩) | (go_at_call 15; with_reducible refine (C3.out _).mono ?_; rintro r w' ⟨rfl, hb⟩)); (try go_wp2_with fail); refine hK.out _ _ ?_ (fun hHeld' => ?_); (focus (first | exact hkeep _ _ hb hHeld | exact hHeld)); clear hK K; replace hHeld := hHeld'; clear hHeld')
    try simp only [Act.put, List.getElem_toArray, List.getElem_cons_succ, List.getElem_cons_zero, List.setIfInBounds_toArray, List.set_cons_zero, List.set_cons_succ]
    (refine wpAnyH_take (i := 8) (v := ?_) rfl (by kernel_rfl) (by kernel_rfl) (by kernel_rfl) (fun _ _ _ h => h) (Or.inl ⟨by rfl, ?_⟩) hHeld ?_; rotate_left; focus (intro w hSw; (try dsimp only at hSw); go_simp; (try with_reducible rfl)))
    try simp only [Act.put, List.getElem_toArray, List.getElem_cons_succ, List.getElem_cons_zero, List.setIfInBounds_toArray, List.set_cons_zero, List.set_cons_succ]
    (refine wpAnyH_take (i := 9) (v := ?_) rfl (by kernel_rfl) (by kernel_rfl) (by kernel_rfl) (fun _ _ _ h => h) (Or.inl ⟨by rfl, ?_⟩) hHeld ?_; rotate_left; focus (intro w hSw; (try dsimp only at hSw); go_simp; (try with_reducible rfl)))
    try simp only [Act.put, List.getElem_toArray, List.getElem_cons_succ, List.getElem_cons_zero, List.setIfInBounds_toArray, List.set_cons_zero, List.set_cons_succ]
    (refine wpAnyH_take (i := 12) (v := ?_) rfl (by kernel_rfl) (by kernel_rfl) (by kernel_rfl) (fun _ _ _ h => h) (Or.inl ⟨by rfl, ?_⟩) hHeld ?_; rotate_left; focus (intro w hSw; (try dsimp only at hSw); go_simp; (try with_reducible rfl)))
    try simp only [Act.put, List.getElem_toArray, List.getElem_cons_succ, List.getElem_cons_zero, List.setIfInBounds_toArray, List.set_cons_zero, List.set_cons_succ]
    (refine wpAnyH_take (i := 13) (v := ?_) rfl (by kernel_rfl) (by kernel_rfl) (by kernel_rfl) (fun _ _ _ h => h) (Or.inl ⟨by rfl, ?_⟩) hHeld ?_; rotate_left; focus (intro w hSw; (try dsimp only at hSw); go_simp; (try with_reducible rfl)))
    try simp only [Act.put, List.getElem_toArray, List.getElem_cons_succ, List.getElem_cons_zero, List.setIfInBounds_toArray, List.set_cons_zero, List.set_cons_succ]
    (refine wpAnyH_ready (rs := [16]) (by kernel_rfl) (by simp) ?_; refine AllReadyH.cons rfl (fun K hK => ?_) AllReadyH.nil; go_simp; (first | (go_at_call 25; with_reducible refine (C1.out _).mono ?_; rintro r w' ⟨rfl, rfl⟩) | (go_at_call 25; with_reducible refine (C2.out _).mono ?_; rintro r w' ⟨rfl, rfl⟩) | (go_at_call 15; with_reducible refine (C3.out _).mono ?_; rintro r w' ⟨rfl, hb⟩)); (try go_wp2_with fail); refine hK.out _ _ ?_ (fun hHeld' => ?_); (focus (first | exact hkeep _ _ hb hHeld | exact hHeld)); clear hK K; replace hHeld := hHeld'; clear hHeld')
    try simp only [Act.put, List.getElem_toArray, List.getElem_cons_succ, List.getElem_cons_zero, List.setIfInBounds_toArray, List.set_cons_zero, List.set_cons_succ]
    (refine wpAnyH_take (i := 17) (v := ?_) rfl (by kernel_rfl) (by kernel_rfl) (by kernel_rfl) (fun _ _ _ h => h) (Or.inl ⟨by rfl, ?_⟩) hHeld ?_; rotate_left; focus (intro w hSw; (try dsimp only at hSw); go_simp; (try with_reducible rfl)))
    try simp only [Act.put, List.getElem_toArray, List.getElem_cons_succ, List.getElem_cons_zero, List.setIfInBounds_toArray, List.set_cons_zero, List.set_cons_succ]
    (refine wpAnyH_take (i := 18) (v := ?_) rfl (by kernel_rfl) (by kernel_rfl) (by kernel_rfl) (fun _ _ _ h => h) (Or.inl ⟨by rfl, ?_⟩) hHeld ?_; rotate_left; focus (intro w hSw; (try dsimp only at hSw); go_simp; (try with_reducible rfl)))
    try simp only [Act.put, List.getElem_toArray, List.getElem_cons_succ, List.getElem_cons_zero, List.setIfInBounds_toArray, List.set_cons_zero, List.set_cons_succ]
    refine wpAnyH_done (by kernel_rfl) ?_ _
    refine NoPanic.normal ?_
    clear hL1 hL2 hL3 hL4 hL5 hL6 hL7 x1 x2 x3 x4 x5 x6 x7 y1 y2 y3 y4 y5 y6 y7 C1 C2 C3 HQ
    obtain ⟨hb0, g0, g1, g2, g3, g4⟩ := hHeld
    clear g0 g1 g2 g3
    have HR := Lib.hid (hr.below (by rw [HZ.out]; exact hb0))
    have HBB := Lib.hid hb0
    clear hr hb0 hkeep HST HB
    rw [HB0.out]
    have n40 := HE.out.n40
    go_wp2_with fail
    go_loop [3, 4] (fun t i => ∃ q : Nat, i = .int .i64 q ∧ q ≤ n ∧ t = .string (sB (textK e q))) (fun _ i => n - (intOf i).toNat)
    case atStart => exact ⟨0, rfl, Nat.zero_le _, rfl⟩
    case round =>
      obtain ⟨q, rfl, hq, rfl⟩ := hrel
      by_cases hlt : q < n
      · have t2 : decide (q < n) = true := by simp [hlt]
        obtain ⟨b, off, rfl, hb', hx⟩ := HR.out (by omega)
        have v0 : w'.cell? ⟨b, off + q, none⟩ = some (.string (sB (e.notes q))) := hx q hlt
        have l0 : (sB (e.notes q)).size ≤ 200 := by rw [sB_size]; exact HE.out.notes q hlt
        have l1 := HLen.out q hq
        have E1 : Hid (sB (e.notes q) ++ sB [58, 32] ++ sB (textK e q) = sB (textK e (q + 1))) := Lib.hid (by rw [sB_append, sB_append]; rfl)
        clear hx
        generalize sB (e.notes q) = r1 at *
        generalize sB (textK e q) = r2 at *
        have y1 : (9223372036854775807 < r1.size + 2) = False := eq_false (by omega)
        have y1' : r1.size + 2 ≤ 9223372036854775807 := by omega
        have l2 : (r1 ++ sB [58, 32]).size ≤ 202 := by rw [ByteArray.size_append]; show r1.size + 2 ≤ 202; omega
        generalize hr3 : r1 ++ sB [58, 32] = r3 at *
        replace hr3 : r1 ++ (⟨#[58, 32]⟩ : ByteArray) = r3 := hr3
        have y2 : r3.size + r2.size ≤ 9223372036854775807 := by omega
        go_wp2_with fail
        go_round
        case rel => exact ⟨q + 1, by go_num, by omega, by rw [E1.out]⟩
        case measure => simp [intOf]; omega
      · have t2 : decide (q < n) = false := by simp; omega
        obtain rfl : q = n := by omega
        go_wp2_with fail
        go_ret
        exact ⟨by rw [e1.out]; rfl, by rw [HZ.out]; exact HBB.out⟩
end Go.Proofs.YtgbgemgpdaclaaaDoor
