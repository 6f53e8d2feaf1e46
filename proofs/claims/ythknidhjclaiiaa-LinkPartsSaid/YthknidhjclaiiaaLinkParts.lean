/- Statement LinkParts of layer 2, walked: it returns true, and turns nothing that was there. -/
import Derived.Test.YthknidhjclaiiaaLinkLaws
namespace Go.Proofs.Ythknidhjclaiiaa
open Go.ChangeShapes Go.WideShapes Go.ChangeAt Go.RowKit

/-- Three cells of a block. -/
def Three (w : World) (g : Nat) (a b c : Value) : Prop := w.cell? ⟨g, 0, none⟩ = some a ∧ w.cell? ⟨g, 1, none⟩ = some b ∧ w.cell? ⟨g, 2, none⟩ = some c
theorem Three.new (w : World) (a b c : Value) (t : TypeId) : Three (w.alloc (.cells #[a, b, c] t)) w.heap.size a b c := by
  have h := Own.new w #[a, b, c] t (fun i => if i = 0 then a else if i = 1 then b else c) 3 rfl (fun i hi => by
    match i, hi with
    | 0, _ => rfl
    | 1, _ => rfl
    | 2, _ => rfl)
  exact ⟨h.cell (i := 0) (by omega), h.cell (i := 1) (by omega), h.cell (i := 2) (by omega)⟩
theorem Three.below {w w' : World} {g B : Nat} {a b c : Value} (h : Three w g a b c) (hb : Below B w w') (hg : g < B) : Three w' g a b c :=
  ⟨by rw [hb.cell hg]; exact h.1, by rw [hb.cell hg]; exact h.2.1, by rw [hb.cell hg]; exact h.2.2⟩
theorem Three.alloc {w : World} {g : Nat} {a b c : Value} (h : Three w g a b c) (hg : g < w.heap.size) (o : Obj) : Three (w.alloc o) g a b c :=
  h.below (B := w.heap.size) ((Below.refl _ _).alloc (Nat.le_refl _) o) hg

theorem three3 (w : World) (a b c a2 b2 c2 a3 b3 c3 : Value) (t : TypeId) : ∀ W, ((w.alloc (.cells #[a, b, c] t)).alloc (.cells #[a2, b2, c2] t)).alloc (.cells #[a3, b3, c3] t) = W →
    Three W w.heap.size a b c ∧ Three W (w.heap.size + 1) a2 b2 c2 ∧ Three W (w.heap.size + 1 + 1) a3 b3 c3 ∧ Below w.heap.size w W ∧ w.heap.size + 1 + 1 < W.heap.size := by
  rintro W rfl
  have t6 := (((Three.new w a b c t).alloc (by simp) (.cells #[a2, b2, c2] t)).alloc (by simp; omega) (.cells #[a3, b3, c3] t))
  have t7 := ((Three.new (w.alloc (.cells #[a, b, c] t)) a2 b2 c2 t).alloc (by simp) (.cells #[a3, b3, c3] t))
  have t8 := (Three.new ((w.alloc (.cells #[a, b, c] t)).alloc (.cells #[a2, b2, c2] t)) a3 b3 c3 t)
  refine ⟨t6, by simpa using t7, by simpa using t8, (((Below.refl _ _).alloc (Nat.le_refl _) _).alloc (by simp) _).alloc (by simp; omega) _, by simp⟩
theorem ref2Read_any (x : Nat) (hx : x < 18446744073709551616) (w : World) :
    Calls Try.prog 7 #[.int .u64 x] w fun e w' => e = .returned (.agg #[.int .i64 (x % 256 : Nat), .int .i64 (x / 256 % 4294967296 : Nat), .bool (decide (9223372036854775808 ≤ x))]) ∧ Below w.heap.size w w' := by
  go_enter Try.func7, Try.ntmps7
  go_wp2
  exact bodyPost_ret (v := .agg #[.int .i64 (x % 256 : Nat), .int .i64 (x / 256 % 4294967296 : Nat), .bool (decide (9223372036854775808 ≤ x))]) (by simp [results, Try.results7, go_sem]; omega) rfl ⟨rfl, (Below.refl _ _).alloc (Nat.le_refl _) _⟩
theorem linkParts_walk (x y : Nat) (hx : x < 18446744073709551616) (hy : y < 18446744073709551616) (w : World) :
    Calls Try.prog 3 #[.int .u64 x, .int .u64 y] w fun e w' => e = .returned (.bool true) ∧ Below w.heap.size w w' := by
  have hm := markN_lt x
  have hp := plainN_lt x
  have R1 := Lib.hid (ref2Read_any x hx)
  have R2 := Lib.hid (ref2Read_any y hy)
  have R3 := Lib.hid (ref2Read_any (markN x) hm)
  rw [show markN x % 256 = x % 256 by unfold markN; omega, show markN x / 256 % 4294967296 = x / 256 % 4294967296 by unfold markN; omega, show decide (9223372036854775808 ≤ markN x) = true by unfold markN; simp] at R3
  have c1 := Lib.hid (linkSlot_any x hx)
  have c2 := Lib.hid (linkGen_any x hx)
  have c3 := Lib.hid (linkMarked_any x hx)
  have c4 := Lib.hid (linkMark_any x hx)
  have c5 := Lib.hid (linkPlain_any x hx)
  have c6 := Lib.hid (linkSame_any x y hx hy)
  have c7 := Lib.hid (ref2Make_any (x % 256 : Nat) (x / 256 % 4294967296 : Nat) (by omega) (by omega))
  rw [mkL_parts] at c7
  have hb1 : x % 256 < 256 := by omega
  have hb2 : x / 256 % 4294967296 < 4294967296 := by omega
  have hhigh : Hid ((x : Int) / 1099511627776 % 8388608 = (markN x : Int) / 1099511627776 % 8388608) := Lib.hid (by unfold markN; omega)
  have hsame : Hid (sameL x y = (((x % 256 : Nat) : Int) == ((y % 256 : Nat) : Int) && ((x / 256 % 4294967296 : Nat) : Int) == ((y / 256 % 4294967296 : Nat) : Int))) := Lib.hid (by
    unfold sameL plainN; rw [Bool.eq_iff_iff]; simp; omega)
  generalize markN x = m at *
  generalize plainN x = p at *
  generalize hx1 : x % 256 = x1 at *
  generalize hx2 : x / 256 % 4294967296 = x2 at *
  generalize hx3 : decide (9223372036854775808 ≤ x) = x3 at *
  generalize hy1 : y % 256 = y1 at *
  generalize hy2 : y / 256 % 4294967296 = y2 at *
  generalize hy3 : decide (9223372036854775808 ≤ y) = y3 at *
  clear hx1 hx2 hx3 hy1 hy2 hy3
  go_enter Try.func3, Try.ntmps3
  go_wp2_with fail
  refine (R1.out _).mono ?_
  rintro e wa ⟨rfl, hba⟩
  go_wp2_with fail
  refine (R2.out _).mono ?_
  rintro e wb ⟨rfl, hbb⟩
  go_wp2_with fail
  generalize hW : World.alloc _ _ = W
  obtain ⟨t6, t7, t8, hbc, hlt⟩ := three3 _ _ _ _ _ _ _ _ _ _ _ W hW
  have hbw : Below w.heap.size w W := hba.trans ((hbb.mono hba.size).trans (hbc.mono (by have := hba.size; have := hbb.size; omega)))
  have hg : w.heap.size ≤ wb.heap.size := Nat.le_trans hba.size hbb.size
  clear hW hbc hba hbb
  generalize wb.heap.size = g at *
  have Ht7 := Lib.hid t7; clear t7
  obtain ⟨u1, u2, u3⟩ := t6
  obtain ⟨v1, v2, v3⟩ := t8
  go_region_held3 (fun w' => w'.cell? ⟨g, 0, none⟩ = some (.int .i64 x1) ∧ w'.cell? ⟨g, 1, none⟩ = some (.int .i64 x2) ∧ w'.cell? ⟨g, 2, none⟩ = some (.bool x3) ∧ w'.cell? ⟨g + 1 + 1, 0, none⟩ = some (.int .i64 x1) ∧ w'.cell? ⟨g + 1 + 1, 1, none⟩ = some (.int .i64 x2) ∧ w'.cell? ⟨g + 1 + 1, 2, none⟩ = some (.bool true)) (first | go_keep | exact ⟨by rw [hb.cell (by simp; omega)]; assumption, by rw [hb.cell (by simp; omega)]; assumption, by rw [hb.cell (by simp; omega)]; assumption, by rw [hb.cell (by simp; omega)]; assumption, by rw [hb.cell (by simp; omega)]; assumption, by rw [hb.cell (by simp; omega)]; assumption⟩)
    (first | (go_at_call 8; refine (c1.out _).mono ?_; rintro e w' ⟨rfl, rfl⟩) | (go_at_call 9; refine (c2.out _).mono ?_; rintro e w' ⟨rfl, rfl⟩) | (go_at_call 10; refine (c3.out _).mono ?_; rintro e w' ⟨rfl, rfl⟩) | (go_at_call 11; refine (c4.out _).mono ?_; rintro e w' ⟨rfl, rfl⟩) | (go_at_call 7; refine (R3.out _).mono ?_; rintro e w' ⟨rfl, hb⟩))
  have t7 : Three w' (g + 1) (.int .i64 y1) (.int .i64 y2) (.bool y3) := ⟨by rw [hb.cell (by simp; omega)]; exact Ht7.out.1, by rw [hb.cell (by simp; omega)]; exact Ht7.out.2.1, by rw [hb.cell (by simp; omega)]; exact Ht7.out.2.2⟩
  have t6 : Three w' g (.int .i64 x1) (.int .i64 x2) (.bool x3) := ⟨by rw [hb.cell (by simp; omega)]; assumption, by rw [hb.cell (by simp; omega)]; assumption, by rw [hb.cell (by simp; omega)]; assumption⟩
  have hbw2 := hbw.trans (((Below.refl _ _).drew).trans (hb.mono (by simp; omega)))
  have hh : ((x : Int) / 1099511627776 % 8388608 == (m : Int) / 1099511627776 % 8388608) = true := by rw [hhigh.out]; simp
  clear u1 u2 u3 v1 v2 v3 hbw hb Ht7
  obtain ⟨u1, u2, u3⟩ := t6
  obtain ⟨v1, v2, v3⟩ := t7
  have hs := hsame.out
  clear hsame
  cases he1 : (((x1 : Nat) : Int) == ((y1 : Nat) : Int))
  all_goals
    cases he2 : (((x2 : Nat) : Int) == ((y2 : Nat) : Int))
    all_goals
      rw [he1, he2] at hs
      have c6' := c6.out
      rw [hs] at c6'
      have C6 := Lib.hid c6'
      clear c6' hs
      go_wp2_with (go_at_call 11; refine (c4.out _).mono ?_; rintro e w' ⟨rfl, rfl⟩)
      go_quiet ((first | (go_at_call 12; exact Calls.quiet_of_same (quiet_eq (c5.out _))) | (go_at_call 13; exact Calls.quiet_of_same (quiet_eq (c7.out _))) | (go_at_call 14; exact Calls.quiet_of_same (quiet_eq (C6.out _))) | (go_at_call 15; exact Calls.quiet_of_same (quiet_eq (lives2_any _)))))
      go_wp2
      go_ret
      exact ⟨rfl, by first | exact below_drewN hbw2 _ | exact hbw2.drew⟩
end Go.Proofs.Ythknidhjclaiiaa
