/- The walks of lives and CellsNew. -/
import Derived.Test.YtdgafadbajcllaaCellsLaws
namespace Go.Proofs.Ytdgafadbajcllaa
open Go.ChangeShapes Go.WideShapes Go.ChangeAt Go.RowKit

theorem mem0_ok {n : Nat} {f : Nat → Nat} (h1 : 1 ≤ n) (h2 : n ≤ 4096) (hf : ∀ i, f i < 18446744073709551616) : OkM (mem0 n f) := ⟨h1, h2, hf, Int.le_refl 0, by show (0 : Int) < _; omega, Int.le_refl 0, Int.le_refl 0⟩
/-- A memory of the call's own has turned, and nothing that was there. -/
theorem below_two {w w1 w2 : World} {g h B : Nat} (hb : Below B w w1) (hB : B ≤ w.heap.size) (ho : Only (Two g h) w1 w2) (hg : B ≤ g) (hh : B ≤ h) : Below B w w2 :=
  Below.only hb ho (Nat.le_trans hB hb.size) (fun i hi => by rcases hi with rfl | rfl <;> assumption)

theorem cLives (w : World) : Calls Try.prog 7 #[] w fun e w' => e = .returned (.bool true) ∧ Below w.heap.size w w' := by
  have C1 := Lib.hid fun W => cNew_yes 2 (by omega) (by omega) W
  have h0 : OkM (mem0 2 fun _ => 0) := mem0_ok (by omega) (by omega) (fun _ => by omega)
  have h1 : OkM (storeM (mem0 2 fun _ => 0) 1 7) := okM_do h0 (by show (0 : Int) < _; omega) ⟨1, 1, 0, 7⟩ ⟨by simp, by simp, by simp, by simp⟩
  have h2 : OkM (casM (storeM (mem0 2 fun _ => 0) 1 7) 1 7 8) := okM_do h1 (by show (1 : Int) < _; omega) ⟨2, 1, 7, 8⟩ ⟨by simp, by simp, by simp, by simp⟩
  have C2 := Lib.hid fun g h W hm => cStore_any (mem0 2 fun _ => 0) h0 (by show (0 : Int) < _; omega) g h 1 W hm 7
  have C3 := Lib.hid fun g h W hm => cCas_any (storeM (mem0 2 fun _ => 0) 1 7) h1 (by show (1 : Int) < _; omega) g h 1 W hm 7 8
  have C4 := Lib.hid fun g h W hm => cWrites_any (casM (storeM (mem0 2 fun _ => 0) 1 7) 1 7 8) g h W hm
  have C5 := Lib.hid fun g h W hm => cLoad_any (casM (storeM (mem0 2 fun _ => 0) 1 7) 1 7 8) h2 g h 1 W hm
  clear h0 h1 h2
  go_enter Try.func7, Try.ntmps7
  go_wp2_with (first | (go_at_call 17; refine (C1.out _).mono ?_; rintro e w1 ⟨g, h, rfl, hm1, hb1, hg, hh⟩) | (go_at_call 18; refine (C2.out _ _ _ hm1).mono ?_; rintro e w2 ⟨rfl, hm2, ho2⟩) | (go_at_call 20; refine (C3.out _ _ _ hm2).mono ?_; rintro e w3 ⟨rfl, hm3, ho3⟩; rw [show casB (storeM (mem0 2 fun _ => 0) 1 7) 1 7 = true from rfl]) | (go_at_call 14; refine (C4.out _ _ _ hm3).mono ?_; rintro e w' ⟨rfl, rfl⟩; rw [show (casM (storeM (mem0 2 fun _ => 0) 1 7) 1 7 8).wr = 2 from rfl]) | (go_at_call 19; refine (C5.out _ _ _ hm3).mono ?_; rintro e w4 ⟨rfl, hm4, ho4⟩; rw [show loadV (casM (storeM (mem0 2 fun _ => 0) 1 7) 1 7 8) 1 = 8 from rfl]))
  go_ret
  exact ⟨rfl, below_two hb1 (Nat.le_refl _) ((ho2.trans ho3).trans ho4) hg hh⟩

theorem cellsNew_no (n : Int) (hn : -9223372036854775808 ≤ n ∧ n ≤ 9223372036854775807) (ho : n < 1 ∨ 4096 < n) (o : Opn) (w : World) : Calls Try.prog 4 #[.int .i64 n, .agg (rowOf 4 (opR o))] w fun e w' => e = .returned (.bool true) ∧ Below w.heap.size w w' := by
  have f4 : #[Value.int .i64 o.k, .int .i64 o.a, .int .u64 (o.old : Nat), .int .u64 (o.v : Nat)] = rowOf 4 (opR o) := rfl
  have C1 := Lib.hid fun W => cOp_nil o W
  have C2 := Lib.hid fun W => cLast_nil W
  have C3 := Lib.hid fun W => cAccesses_nil W
  have C4 := Lib.hid fun W => cWrites_nil W
  have C5 := Lib.hid fun W => cFault_nil W
  have C6 := Lib.hid fun W => cWords_nil W
  have C7 := Lib.hid fun W => cClone_nil W
  have C8 := Lib.hid fun W => cNew_no n hn ho W
  have C9 := Lib.hid fun W => cLives W
  go_enter Try.func4, Try.ntmps4
  go_upto_region 1 with fail
  generalize hW : World.alloc _ _ = W
  have hr : Row W w.heap.size 26 4 (opR o) := by rw [← hW]; exact Row.new _ _ _ _ _ rfl
  have hB : Below w.heap.size w W := by rw [← hW]; exact (Below.refl _ _).alloc (Nat.le_refl _) _
  clear hW
  generalize hz : w.heap.size = a1 at *
  have HZ := Lib.hid hz; clear hz
  obtain ⟨o0, o1, o2, o3⟩ := op_cells hr
  have HB := Lib.hid hB
  clear hr hB
  go_wp2_with (first | (go_at_call 9; refine (C1.out _).mono ?_; rintro e w1 ⟨rfl, hb1⟩) | (go_at_call 12; refine (C2.out _).mono ?_; rintro e w' ⟨rfl, rfl⟩) | (go_at_call 13; refine (C3.out _).mono ?_; rintro e w' ⟨rfl, rfl⟩) | (go_at_call 14; refine (C4.out _).mono ?_; rintro e w' ⟨rfl, rfl⟩) | (go_at_call 15; refine (C5.out _).mono ?_; rintro e w' ⟨rfl, rfl⟩) | (go_at_call 16; refine (C6.out _).mono ?_; rintro e w' ⟨rfl, rfl⟩) | (go_at_call 11; refine (C7.out _).mono ?_; rintro e w' ⟨rfl, rfl⟩) | (go_at_call 17; refine (C8.out _).mono ?_; rintro e w' ⟨rfl, rfl⟩) | (go_at_call 7; refine (C9.out _).mono ?_; rintro e w2 ⟨rfl, hb2⟩))
  all_goals
    go_ret
    exact ⟨rfl, by rw [HZ.out]; exact below_on (below_on HB.out (Nat.le_of_eq HZ.out.symm) hb1) (Nat.le_of_eq HZ.out.symm) hb2⟩

theorem cellsNew_yes (n : Nat) (h1 : 1 ≤ n) (h2 : n ≤ 4096) (o : Opn) (w : World) : Calls Try.prog 4 #[.int .i64 n, .agg (rowOf 4 (opR o))] w fun e w' => e = .returned (.bool true) ∧ Below w.heap.size w w' := by
  have f4 : #[Value.int .i64 o.k, .int .i64 o.a, .int .u64 (o.old : Nat), .int .u64 (o.v : Nat)] = rowOf 4 (opR o) := rfl
  have C1 := Lib.hid fun W => cOp_nil o W
  have C2 := Lib.hid fun W => cLast_nil W
  have C3 := Lib.hid fun W => cAccesses_nil W
  have C4 := Lib.hid fun W => cWrites_nil W
  have C5 := Lib.hid fun W => cFault_nil W
  have C6 := Lib.hid fun W => cWords_nil W
  have C7 := Lib.hid fun W => cClone_nil W
  have C8 := Lib.hid fun W => cNew_yes n h1 h2 W
  have C9 := Lib.hid fun W => cLives W
  have CS := Lib.hid fun (A : Option Addr) (W : World) (g h : Nat) (hm : MemIs W g h (mem0 n fun _ => 0)) (hA : RowIs W A n (us fun _ => 0)) => cSameL (mem0 n fun _ => 0) (mem0_ok h1 h2 fun _ => by omega) g h A n W hm hA
  have hmk := fun W : World => run_make_row' (P := Try.prog) 22 24 (.int .u64 0) 8 Try.underlying22 infoW rfl .i64 .i64 n (by omega) (by omega) W
  rw [made_row] at hmk
  go_enter Try.func4, Try.ntmps4
  go_upto_region 1 with fail
  generalize hW : World.alloc _ _ = W
  have hr : Row W w.heap.size 26 4 (opR o) := by rw [← hW]; exact Row.new _ _ _ _ _ rfl
  have hB : Below w.heap.size w W := by rw [← hW]; exact (Below.refl _ _).alloc (Nat.le_refl _) _
  clear hW
  generalize hz : w.heap.size = a1 at *
  have HZ := Lib.hid hz; clear hz
  obtain ⟨o0, o1, o2, o3⟩ := op_cells hr
  have HB := Lib.hid hB
  clear hr hB
  go_wp2_with (first | (go_at_call 9; refine (C1.out _).mono ?_; rintro e w1 ⟨rfl, hb1⟩) | (go_at_call 12; refine (C2.out _).mono ?_; rintro e w' ⟨rfl, rfl⟩) | (go_at_call 13; refine (C3.out _).mono ?_; rintro e w' ⟨rfl, rfl⟩) | (go_at_call 14; refine (C4.out _).mono ?_; rintro e w' ⟨rfl, rfl⟩) | (go_at_call 15; refine (C5.out _).mono ?_; rintro e w' ⟨rfl, rfl⟩) | (go_at_call 16; refine (C6.out _).mono ?_; rintro e w' ⟨rfl, rfl⟩) | (go_at_call 11; refine (C7.out _).mono ?_; rintro e w' ⟨rfl, rfl⟩) | (go_at_call 17; refine (C8.out _).mono ?_; rintro e w3 ⟨g, h, rfl, hm3, hb3, hg, hh⟩; have h3 := Lib.hid (And.intro hm3 (And.intro hb3 (And.intro hg hh))); clear hm3 hb3 hg hh) | (go_at_call 8; refine (CS.out (some ⟨w3.heap.size, 0, none⟩) _ g h (h3.out.1.keep ((Below.refl _ _).alloc (Nat.le_refl _) _)) (row_lead (heap_alloc_new w3 _))).mono ?_; rintro e w4 ⟨rfl, hb4⟩) | (go_at_call 7; refine (C9.out _).mono ?_; rintro e w5 ⟨rfl, hb5⟩))
  go_ret
  refine ⟨rfl, ?_⟩
  have q1 := below_on HB.out (Nat.le_of_eq HZ.out.symm) hb1
  have q3 := below_on q1 (Nat.le_of_eq HZ.out.symm) h3.out.2.1
  have q4 := below_on (q3.alloc (Nat.le_trans (Nat.le_of_eq HZ.out.symm) q3.size) _) (Nat.le_of_eq HZ.out.symm) hb4
  rw [HZ.out]
  exact below_on q4 (Nat.le_of_eq HZ.out.symm) hb5

theorem cellsNew_walk (n : Int) (hn : -9223372036854775808 ≤ n ∧ n ≤ 9223372036854775807) (o : Opn) (w : World) : Calls Try.prog 4 #[.int .i64 n, .agg (rowOf 4 (opR o))] w fun e w' => e = .returned (.bool true) ∧ Below w.heap.size w w' := by
  by_cases h : n < 1 ∨ 4096 < n
  · exact cellsNew_no n hn h o w
  · obtain ⟨k, rfl⟩ : ∃ k : Nat, n = k := ⟨n.toNat, by omega⟩
    exact cellsNew_yes k (by omega) (by omega) o w
end Go.Proofs.Ytdgafadbajcllaa
