/- What package plan's own small functions answer, and what a plan is in memory: 55 numbers: the configuration's 14, of each kind where it begins, its first, how many, how many words each; how many words a level has. -/
import Derived.Test.YtncemjpfdblecaaConf
import Derived.Deep.WholeRow
namespace Go.Proofs.Ytncemjpfdblecaa
open Go.ChangeShapes Go.WideShapes Go.ChangeAt Go.RowKit

def belowB (n m : Int) : Bool := decide (0 ≤ n) && decide (n < m)
theorem belowB_yes {n m : Int} (h : 0 ≤ n ∧ n < m) : belowB n m = true := by simp [belowB, h.1, h.2]
theorem belowB_iff {n m : Int} : belowB n m = true ↔ 0 ≤ n ∧ n < m := by simp [belowB]
theorem belowB_no {n m : Int} (h : ¬ (0 ≤ n ∧ n < m)) : belowB n m = false := by
  cases hb : belowB n m
  · rfl
  · exact absurd (belowB_iff.1 hb) h
theorem pBelow_any (n m : Int) (w : World) : Calls Try.prog 15 #[.int .i64 n, .int .i64 m] w fun e w' => e = .returned (.bool (belowB n m)) ∧ w = w' := by
  have H : Hid (belowB n m = (decide (0 ≤ n) && decide (n < m))) := Lib.hid rfl
  by_cases h1 : 0 ≤ n
  · by_cases h2 : n < m
    · go_enter Try.func15, Try.ntmps15
      go_wp2
      go_ret
      exact ⟨by rw [H.out]; simp [h1, h2], rfl⟩
    · go_enter Try.func15, Try.ntmps15
      go_wp2
      go_ret
      exact ⟨by rw [H.out]; simp [h1, h2], rfl⟩
  · go_enter Try.func15, Try.ntmps15
    go_wp2
    go_ret
    exact ⟨by rw [H.out, decide_eq_false (by omega), Bool.false_and]; rfl, rfl⟩

def firstK (k : Nat) : Int := if k < 8 then 0 else 1
def countK (c : Nat → Int) (k : Nat) : Int := if k < 4 then 1 else if k = 4 then 4 else if k = 5 then 2 else if k = 6 then 8 else if k = 7 then c 11 else c 10
def eachK (k : Nat) : Int := if k = 9 then 5 else 1
/-- Where a kind begins; behind the last one: how many words there are. -/
def atK (c : Nat → Int) (k : Nat) : Int := if k < 5 then k else if k = 5 then 8 else if k = 6 then 10 else if k = 7 then 18 else if k = 8 then 18 + c 11 else if k = 9 then 18 + c 11 + c 10 else 18 + c 11 + 6 * c 10
theorem atK_succ (c : Nat → Int) (k : Nat) (h : k < 10) : atK c (k + 1) = atK c k + countK c k * eachK k := by
  match k, h with
  | 0, _ => rfl
  | 1, _ => rfl
  | 2, _ => rfl
  | 3, _ => rfl
  | 4, _ => rfl
  | 5, _ => rfl
  | 6, _ => rfl
  | 7, _ => show 18 + c 11 = 18 + c 11 * 1; omega
  | 8, _ => show 18 + c 11 + c 10 = 18 + c 11 + c 10 * 1; omega
  | 9, _ => show 18 + c 11 + 6 * c 10 = 18 + c 11 + c 10 + c 10 * 5; omega
/-- A kind's four numbers; where it begins only if t. -/
def partN (c : Nat → Int) (t : Bool) (k j : Nat) : Int := if j = 0 then (if t = true then atK c k else 0) else if j = 1 then firstK k else if j = 2 then countK c k else eachK k
/-- A plan of which k kinds have been laid. -/
def planT (c : Nat → Int) (k i : Nat) : Int := if i < 14 then c i else if i < 54 then partN c (decide ((i - 14) / 4 < k)) ((i - 14) / 4) ((i - 14) % 4) else atK c k
def planN (c : Nat → Int) : Nat → Int := planT c 10
def parts0 (c : Nat → Int) (i : Nat) : Int := partN c false (i / 4) (i % 4)
theorem fold40 (c : Nat → Int) : #[Value.int .i64 0, .int .i64 0, .int .i64 1, .int .i64 1, .int .i64 0, .int .i64 0, .int .i64 1, .int .i64 1, .int .i64 0, .int .i64 0, .int .i64 1, .int .i64 1, .int .i64 0, .int .i64 0, .int .i64 1, .int .i64 1,
    .int .i64 0, .int .i64 0, .int .i64 4, .int .i64 1, .int .i64 0, .int .i64 0, .int .i64 2, .int .i64 1, .int .i64 0, .int .i64 0, .int .i64 8, .int .i64 1, .int .i64 0, .int .i64 0, .int .i64 (c 11), .int .i64 1,
    .int .i64 0, .int .i64 1, .int .i64 (c 10), .int .i64 1, .int .i64 0, .int .i64 1, .int .i64 (c 10), .int .i64 5] = rowOf 40 (ints (parts0 c)) := by rfl

set_option maxRecDepth 100000 in
set_option maxHeartbeats 1000000 in
theorem pParts_any (c : Nat → Int) (w : World) : Calls Try.prog 18 #[.agg (rowOf 14 (ints c))] w fun e w' => e = .returned (.agg (rowOf 40 (ints (parts0 c)))) ∧ Below w.heap.size w w' := by
  have f40 := fold40 c
  go_enter Try.func18, Try.ntmps18
  go_upto_region 1 with fail
  generalize hW : World.alloc _ _ = W
  obtain ⟨hB, hr, hq⟩ := two_blocks w 24 47 14 40 (ints c) (ints fun _ => 0) W hW
  clear hW
  generalize hz : w.heap.size = a1 at *
  have HZ := Lib.hid hz; clear hz
  obtain ⟨u0, u1, u2, u3, u4, u5, u6, u7, u8, u9, u10, u11, u12, u13⟩ := conf_cells hr
  clear u0 u1 u2 u3 u4 u5 u6 u7 u8 u9 u12 u13
  go_wp2_with (refine wpList_store_row rfl 47 _ _ rfl (a1 + 1) (rowOf 40 (ints (parts0 c))) rfl rfl 47 (rowOf 40 (ints fun _ => 0)) hq (by kernel_rfl) rfl (ints_one _ _) ?_)
  exact bodyPost_ret (results_cell_row (p := 2) (ty := 47) (by kernel_rfl) _ _ (a1 + 1) 47 (rowOf 40 (ints (parts0 c))) (0, 0) _ rfl (hq.setRow_ _) Try.underlying47 rfl (by kernel_rfl)) rfl ⟨rfl, by rw [HZ.out]; exact below_setRow_ hB (by omega) _⟩

set_option maxRecDepth 100000 in
theorem pPartWords_any (x : Nat → Int) (m : Int) (hm : x 2 * x 3 = m) (h2 : 0 ≤ x 2 ∧ x 2 ≤ 60) (h3 : x 3 = 1 ∨ x 3 = 5) (w : World) : Calls Try.prog 19 #[.agg (rowOf 4 (ints x))] w fun e w' => e = .returned (.int .i64 m) ∧ Below w.heap.size w w' := by
  go_enter Try.func19, Try.ntmps19
  go_upto_region 1 with fail
  generalize hW : World.alloc _ _ = W
  have hr : Row W w.heap.size 46 4 (ints x) := by rw [← hW]; exact Row.new _ _ _ _ _ rfl
  have hB : Below w.heap.size w W := by rw [← hW]; exact (Below.refl _ _).alloc (Nat.le_refl _) _
  clear hW
  have v2 : W.cell? ⟨w.heap.size, 2, none⟩ = some (.int .i64 (x 2)) := hr.cell (i := 2) (by omega)
  have v3 : W.cell? ⟨w.heap.size, 3, none⟩ = some (.int .i64 (x 3)) := hr.cell (i := 3) (by omega)
  clear hr
  generalize hz : w.heap.size = a1 at *
  have HZ := Lib.hid hz; clear hz
  rcases h3 with h3 | h3
  · rw [h3] at v3 hm
    obtain rfl : m = x 2 := by omega
    clear hm
    go_wp2_with fail
    go_ret
    exact ⟨by first | rfl | (refine congrArg Ending.returned ?_; simp), by rw [HZ.out]; exact hB⟩
  · rw [h3] at v3 hm
    go_wp2_with fail
    go_ret
    exact ⟨by first | rfl | (refine congrArg Ending.returned ?_; simp; omega), by rw [HZ.out]; exact hB⟩
end Go.Proofs.Ytncemjpfdblecaa
