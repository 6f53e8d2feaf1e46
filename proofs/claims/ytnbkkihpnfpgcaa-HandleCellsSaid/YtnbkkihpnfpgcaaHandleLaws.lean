/- Statements HandleParts, HandleCells and HandleBack of layer 3, walked: each returns true, and turns nothing that was there. -/
import Derived.Test.YtnbkkihpnfpgcaaRef3
namespace Go.Proofs.Ytnbkkihpnfpgcaa
open Go.ChangeShapes Go.WideShapes Go.ChangeAt Go.RowKit

theorem handleParts_walk (l s g : Int) (hl : -9223372036854775808 ≤ l ∧ l ≤ 9223372036854775807) (hs : -9223372036854775808 ≤ s ∧ s ≤ 9223372036854775807) (hg : -9223372036854775808 ≤ g ∧ g ≤ 9223372036854775807) (x : Nat) (hx : x < 18446744073709551616) (w : World) :
    Calls Try.prog 3 #[.agg #[.int .i64 l, .int .i64 s, .int .i64 g], .int .u64 x] w fun e w' => e = .returned (.bool true) ∧ Below w.heap.size w w' := by
  have c1 := Lib.hid (hParts_any x hx)
  have c2 := Lib.hid (r3Parts_any x hx)
  have c3 := Lib.hid (hMake_any l s g hl hs hg)
  have c4 := Lib.hid (r3Make_any l s g hl hs hg)
  generalize x / 1152921504606846976 = k1 at *
  generalize x % 256 = k2 at *
  generalize x / 256 % 4294967296 = k3 at *
  generalize mkH l s g = k4 at *
  generalize rightB x = rb at *
  go_enter Try.func3, Try.ntmps3
  go_wp2_with (go_at_call 7; refine (c1.out _).mono ?_; rintro e w' ⟨rfl, rfl⟩)
  generalize hW : World.alloc _ _ = W
  have hT : Three W w.heap.size (.int .i64 l) (.int .i64 s) (.int .i64 g) := by rw [← hW]; exact Three.new ..
  have hB : Below w.heap.size w W := by rw [← hW]; exact (Below.refl _ _).alloc (Nat.le_refl _) _
  have hz : w.heap.size < W.heap.size := by rw [← hW]; simp
  clear hW
  refine (c2.out _).mono ?_; rintro e wa ⟨rfl, hba⟩
  replace hT := hT.below hba hz
  replace hB := hB.trans (hba.mono hB.size)
  replace hz := Nat.lt_of_lt_of_le hz hba.size
  clear hba
  go_wp2_with fail
  generalize hW : World.alloc _ _ = W2
  have hT2 : Three W2 wa.heap.size (.int .i64 k1) (.int .i64 k2) (.int .i64 k3) := by rw [← hW]; exact Three.new ..
  replace hT : Three W2 w.heap.size (.int .i64 l) (.int .i64 s) (.int .i64 g) := by rw [← hW]; exact hT.alloc hz _
  replace hB : Below w.heap.size w W2 := by rw [← hW]; exact hB.alloc (by omega) _
  have hz2 : wa.heap.size < W2.heap.size := by rw [← hW]; simp
  clear hW
  generalize hg1 : w.heap.size = a1 at *
  generalize hg2 : wa.heap.size = a2 at *
  clear hg2
  obtain ⟨u1, u2, u3⟩ := hT
  obtain ⟨v1, v2, v3⟩ := hT2
  have hkeep : ∀ w1 w2 : World, Below w1.heap.size w1 w2 → (fun w' : World => Below a1 w w' ∧ w'.cell? ⟨a1, 0, none⟩ = some (.int .i64 l) ∧ w'.cell? ⟨a1, 1, none⟩ = some (.int .i64 s) ∧ w'.cell? ⟨a1, 2, none⟩ = some (.int .i64 g) ∧ w'.cell? ⟨a2, 0, none⟩ = some (.int .i64 k1) ∧ w'.cell? ⟨a2, 1, none⟩ = some (.int .i64 k2) ∧ w'.cell? ⟨a2, 2, none⟩ = some (.int .i64 k3)) w1 → (fun w' : World => Below a1 w w' ∧ w'.cell? ⟨a1, 0, none⟩ = some (.int .i64 l) ∧ w'.cell? ⟨a1, 1, none⟩ = some (.int .i64 s) ∧ w'.cell? ⟨a1, 2, none⟩ = some (.int .i64 g) ∧ w'.cell? ⟨a2, 0, none⟩ = some (.int .i64 k1) ∧ w'.cell? ⟨a2, 1, none⟩ = some (.int .i64 k2) ∧ w'.cell? ⟨a2, 2, none⟩ = some (.int .i64 k3)) w2 := by
    rintro w1 w2 hb ⟨h0, h1, h2, h3, h4, h5, h6⟩
    exact ⟨below_on h0 (by omega) hb, cell_keep hb h1, cell_keep hb h2, cell_keep hb h3, cell_keep hb h4, cell_keep hb h5, cell_keep hb h6⟩
  go_region_held3 (fun w' => Below a1 w w' ∧ w'.cell? ⟨a1, 0, none⟩ = some (.int .i64 l) ∧ w'.cell? ⟨a1, 1, none⟩ = some (.int .i64 s) ∧ w'.cell? ⟨a1, 2, none⟩ = some (.int .i64 g) ∧ w'.cell? ⟨a2, 0, none⟩ = some (.int .i64 k1) ∧ w'.cell? ⟨a2, 1, none⟩ = some (.int .i64 k2) ∧ w'.cell? ⟨a2, 2, none⟩ = some (.int .i64 k3))
    (first | exact ⟨hB.drew, u1, u2, u3, v1, v2, v3⟩ | exact hkeep _ _ hb (by assumption) | assumption)
    (first | (go_at_call 9; refine (c3.out _).mono ?_; rintro e w' ⟨rfl, rfl⟩) | (go_at_call 10; refine (c4.out _).mono ?_; rintro e w' ⟨rfl, hb⟩) | (go_at_call 11; refine (lives3_any _).mono ?_; rintro e w' ⟨rfl, rfl⟩))
  have hF : Below a1 w w' := (‹Below a1 w w' ∧ _›).1
  go_wp2
  go_ret
  exact ⟨rfl, by rw [hg1]; exact hF⟩

set_option maxHeartbeats 1000000 in
theorem handleCells_walk (s g : Int) (l : Nat) (t : Int) (x : Nat) (hs : -9223372036854775808 ≤ s ∧ s ≤ 9223372036854775807) (hg : -9223372036854775808 ≤ g ∧ g ≤ 9223372036854775807) (hl : l < 18446744073709551616) (ht : -9223372036854775808 ≤ t ∧ t ≤ 9223372036854775807) (hx : x < 18446744073709551616) (w : World) :
    Calls Try.prog 5 #[.agg #[.int .i64 s, .int .i64 g, .int .u64 l], .int .i64 t, .int .u64 x] w fun e w' => e = .returned (.bool true) ∧ Below w.heap.size w w' := by
  have c1 := Lib.hid (hWhat_any x hx)
  have c2 := Lib.hid (r3What_any x hx)
  have c3 := Lib.hid (hCell_any s g l hs hg hl)
  have c4 := Lib.hid (r3Cell_any s g l hs hg hl)
  have c5 := Lib.hid (hHold_any t ht)
  have c6 := Lib.hid (r3Hold_any t ht)
  have c7 := Lib.hid (hKind_any x hx)
  have c8 := Lib.hid (r3Kind_any x hx)
  have c9 := Lib.hid (hOld_any l x hl hx)
  have c10 := Lib.hid (r3Old_any l x hl hx)
  unfold whatV at c1 c2
  generalize wS x = k1 at *
  generalize wG x = k2 at *
  generalize wL x = k3 at *
  generalize mkC s g l = k4 at *
  generalize mkHold t = k5 at *
  generalize kindN x = k6 at *
  generalize oldB l x = ob at *
  go_enter Try.func5, Try.ntmps5
  go_wp2_with fail
  generalize hW : World.alloc _ _ = W
  have hT : Three W w.heap.size (.int .i64 s) (.int .i64 g) (.int .u64 l) := by rw [← hW]; exact Three.new ..
  have hB : Below w.heap.size w W := by rw [← hW]; exact (Below.refl _ _).alloc (Nat.le_refl _) _
  have hz : w.heap.size < W.heap.size := by rw [← hW]; simp
  clear hW
  refine (c1.out _).mono ?_; rintro e wa ⟨rfl, hba⟩
  replace hT := hT.below hba hz
  replace hB := hB.trans (hba.mono hB.size)
  replace hz := Nat.lt_of_lt_of_le hz hba.size
  clear hba
  go_wp2_with fail
  generalize hW : World.alloc _ _ = W2
  have hT2 : Three W2 wa.heap.size (.int .i64 k1) (.int .i64 k2) (.int .u64 k3) := by rw [← hW]; exact Three.new ..
  replace hT : Three W2 w.heap.size (.int .i64 s) (.int .i64 g) (.int .u64 l) := by rw [← hW]; exact hT.alloc hz _
  replace hB : Below w.heap.size w W2 := by rw [← hW]; exact hB.alloc (by omega) _
  clear hW
  generalize hg1 : w.heap.size = a1 at *
  generalize hg2 : wa.heap.size = a2 at *
  clear hg2
  obtain ⟨u1, u2, u3⟩ := hT
  obtain ⟨v1, v2, v3⟩ := hT2
  have hkeep : ∀ w1 w2 : World, Below w1.heap.size w1 w2 → (fun w' : World => Below a1 w w' ∧ w'.cell? ⟨a1, 0, none⟩ = some (.int .i64 s) ∧ w'.cell? ⟨a1, 1, none⟩ = some (.int .i64 g) ∧ w'.cell? ⟨a1, 2, none⟩ = some (.int .u64 l) ∧ w'.cell? ⟨a2, 0, none⟩ = some (.int .i64 k1) ∧ w'.cell? ⟨a2, 1, none⟩ = some (.int .i64 k2) ∧ w'.cell? ⟨a2, 2, none⟩ = some (.int .u64 k3)) w1 → (fun w' : World => Below a1 w w' ∧ w'.cell? ⟨a1, 0, none⟩ = some (.int .i64 s) ∧ w'.cell? ⟨a1, 1, none⟩ = some (.int .i64 g) ∧ w'.cell? ⟨a1, 2, none⟩ = some (.int .u64 l) ∧ w'.cell? ⟨a2, 0, none⟩ = some (.int .i64 k1) ∧ w'.cell? ⟨a2, 1, none⟩ = some (.int .i64 k2) ∧ w'.cell? ⟨a2, 2, none⟩ = some (.int .u64 k3)) w2 := by
    rintro w1 w2 hb ⟨h0, h1, h2, h3, h4, h5, h6⟩
    exact ⟨below_on h0 (by omega) hb, cell_keep hb h1, cell_keep hb h2, cell_keep hb h3, cell_keep hb h4, cell_keep hb h5, cell_keep hb h6⟩
  go_region_held3 (fun w' => Below a1 w w' ∧ w'.cell? ⟨a1, 0, none⟩ = some (.int .i64 s) ∧ w'.cell? ⟨a1, 1, none⟩ = some (.int .i64 g) ∧ w'.cell? ⟨a1, 2, none⟩ = some (.int .u64 l) ∧ w'.cell? ⟨a2, 0, none⟩ = some (.int .i64 k1) ∧ w'.cell? ⟨a2, 1, none⟩ = some (.int .i64 k2) ∧ w'.cell? ⟨a2, 2, none⟩ = some (.int .u64 k3))
    (first | exact ⟨hB.drew, u1, u2, u3, v1, v2, v3⟩ | exact hkeep _ _ hb (by assumption) | assumption)
    (first | (go_at_call 17; refine (c3.out _).mono ?_; rintro e w' ⟨rfl, hb⟩) | (go_at_call 18; refine (c4.out _).mono ?_; rintro e w' ⟨rfl, hb⟩) | (go_at_call 19; refine (c5.out _).mono ?_; rintro e w' ⟨rfl, rfl⟩) | (go_at_call 20; refine (c6.out _).mono ?_; rintro e w' ⟨rfl, rfl⟩) | (go_at_call 21; refine (c7.out _).mono ?_; rintro e w' ⟨rfl, rfl⟩) | (go_at_call 22; refine (c8.out _).mono ?_; rintro e w' ⟨rfl, rfl⟩) | (go_at_call 23; refine (c2.out _).mono ?_; rintro e w' ⟨rfl, hb⟩) | (go_at_call 24; refine (c9.out _).mono ?_; rintro e w' ⟨rfl, rfl⟩) | (go_at_call 25; refine (c10.out _).mono ?_; rintro e w' ⟨rfl, rfl⟩) | (go_at_call 11; refine (lives3_any _).mono ?_; rintro e w' ⟨rfl, rfl⟩))
  all_goals
    have hF := And.left (by assumption : Below a1 w w' ∧ w'.cell? ⟨a1, 0, none⟩ = some (.int .i64 s) ∧ w'.cell? ⟨a1, 1, none⟩ = some (.int .i64 g) ∧ w'.cell? ⟨a1, 2, none⟩ = some (.int .u64 l) ∧ w'.cell? ⟨a2, 0, none⟩ = some (.int .i64 k1) ∧ w'.cell? ⟨a2, 1, none⟩ = some (.int .i64 k2) ∧ w'.cell? ⟨a2, 2, none⟩ = some (.int .u64 k3))
    go_wp2
    go_ret
    exact ⟨rfl, by rw [hg1]; exact hF⟩
end Go.Proofs.Ytnbkkihpnfpgcaa
