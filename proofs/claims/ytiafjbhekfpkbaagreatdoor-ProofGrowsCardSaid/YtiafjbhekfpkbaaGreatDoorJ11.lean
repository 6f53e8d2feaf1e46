/- The document's answers of layer 8: numbers in decimal, names of codes. · What may be called, what an op is called, whether it looks, its part: package call's and the document's answers. · What a call may be answered: package call's and the document's answers. -/
import Derived.Test.YtiafjbhekfpkbaaGreatDoorJ0
import Derived.WalkKit
import Derived.Lib.Hide
import Derived.WalkSpells
import Derived.Deep.DeepCutAuto
import Derived.Deep.WholeRow
import Derived.Laws.Cover4
import Derived.IntWalk
import Derived.Deep.QuietTactic
import Derived.BigQuiet
namespace Go.Proofs.YtiafjbhekfpkbaaGreatDoor
set_option linter.unusedSimpArgs false
set_option linter.unusedVariables false
open Go.ChangeShapes Go.WideShapes Go.RowKit

/-- Bytes as a string. -/
def sB (l : List UInt8) : ByteArray := ⟨l.toArray⟩
theorem sB_append (a b : List UInt8) : sB a ++ sB b = sB (a ++ b) := by
  unfold sB
  ext1
  simp
theorem sB_size (l : List UInt8) : (sB l).size = l.length := by simp [sB, ByteArray.size]
theorem enc_ascii (n : Nat) (h : n < 128) : Utf8.encode (n : Int) = sB [UInt8.ofNat n] := by
  have hv : Utf8.valid (n : Int) = true := by unfold Utf8.valid; simp; omega
  unfold Utf8.encode
  rw [if_pos hv, Int.toNat_natCast]
  show (if n < 128 then _ else _) = _
  rw [if_pos h]
  rfl
/-- A number's digits. -/
def decN (n : Nat) : List UInt8 := if n < 10 then [UInt8.ofNat (48 + n)] else decN (n / 10) ++ [UInt8.ofNat (48 + n % 10)]
termination_by n
def numL (n : Int) : List UInt8 := bif decide (n < 0) then 45 :: decN n.natAbs else decN n.natAbs
theorem decN_small {n : Nat} (h : n < 10) : decN n = [UInt8.ofNat (48 + n)] := by rw [decN, if_pos h]
theorem decN_more {n : Nat} (h : ¬ n < 10) : decN n = decN (n / 10) ++ [UInt8.ofNat (48 + n % 10)] := by rw [decN, if_neg h]

theorem dec_len : ∀ (k n : Nat), n < 10 ^ (k + 1) → (decN n).length ≤ k + 1
  | 0, n, h => by rw [decN_small (by simpa using h)]; simp
  | k + 1, n, h => by
    by_cases hs : n < 10
    · rw [decN_small hs]; simp
    · rw [decN_more (n := n) hs]
      have := dec_len k (n / 10) (by rw [Nat.pow_succ] at h; omega)
      simp
      omega
theorem dec_size (n : Nat) (h : n ≤ 9223372036854775808) : (sB (decN n)).size ≤ 20 := by
  rw [sB_size]
  exact dec_len 19 n (by omega)
theorem numL_min : sB (numL (-9223372036854775808)) = ⟨#[45, 57, 50, 50, 51, 51, 55, 50, 48, 51, 54, 56, 53, 52, 55, 55, 53, 56, 48, 56]⟩ := by
  unfold numL
  rw [decide_eq_true (by omega)]
  show sB (45 :: decN 9223372036854775808) = _
  iterate 18 rw [decN_more (by decide)]
  rw [decN_small (by decide)]
  rfl
/-- What codes are called. -/
def namesL : List (List UInt8) := [[111, 107], [97, 114, 103], [114, 97, 110, 103, 101], [102, 111, 114, 109], [101, 110, 100], [108, 111, 110, 103], [110, 111, 110, 101], [101, 120, 105, 115, 116, 115], [102, 117, 108, 108], [108, 105, 109, 98, 111], [113, 117, 111, 116, 97], [115, 116, 97, 108, 101], [112, 111, 108, 105, 99, 121], [114, 101, 116, 114, 121], [98, 97, 100], [119, 111, 114, 110]]
def nameL (c : Int) : List UInt8 := bif decide (0 ≤ c ∧ c < 16) then namesL.getD c.toNat [] else [119, 104, 97, 116]
def namesF : Nat → Value := fun i => .string (sB (namesL.getD i []))
theorem namesF_one (n : Nat) : (rowOf n namesF).all (·.oneCell') = true := rowOf_one fun _ => rfl
theorem names_fold : #[Value.string ⟨#[111, 107]⟩, .string ⟨#[97, 114, 103]⟩, .string ⟨#[114, 97, 110, 103, 101]⟩, .string ⟨#[102, 111, 114, 109]⟩, .string ⟨#[101, 110, 100]⟩, .string ⟨#[108, 111, 110, 103]⟩, .string ⟨#[110, 111, 110, 101]⟩, .string ⟨#[101, 120, 105, 115, 116, 115]⟩, .string ⟨#[102, 117, 108, 108]⟩, .string ⟨#[108, 105, 109, 98, 111]⟩, .string ⟨#[113, 117, 111, 116, 97]⟩, .string ⟨#[115, 116, 97, 108, 101]⟩, .string ⟨#[112, 111, 108, 105, 99, 121]⟩, .string ⟨#[114, 101, 116, 114, 121]⟩, .string ⟨#[98, 97, 100]⟩, .string ⟨#[119, 111, 114, 110]⟩] = rowOf 16 namesF := rfl
end Go.Proofs.YtiafjbhekfpkbaaGreatDoor
namespace Go.Proofs.YtiafjbhekfpkbaaGreatDoor
set_option linter.unusedSimpArgs false
set_option linter.unusedVariables false
open Go.ChangeShapes Go.WideShapes Go.ChangeAt Go.RowKit

/-- May a call be? -/
def mayC (op l r : Int) : Bool := decide (0 ≤ op) && (decide (op ≤ 12) && (decide (0 ≤ l) && (decide (l ≤ 3) && (decide (0 ≤ r) && decide (r ≤ 40)))))
theorem mayC_yes {op l r : Int} (h0 : 0 ≤ op) (h1 : op ≤ 12) (h2 : 0 ≤ l) (h3 : l ≤ 3) (h4 : 0 ≤ r) (h5 : r ≤ 40) : mayC op l r = true := by
  unfold mayC
  rw [decide_eq_true h0, decide_eq_true h1, decide_eq_true h2, decide_eq_true h3, decide_eq_true h4, decide_eq_true h5]
  rfl
theorem mayC_no {op l r : Int} (h : ¬ (0 ≤ op ∧ op ≤ 12 ∧ 0 ≤ l ∧ l ≤ 3 ∧ 0 ≤ r ∧ r ≤ 40)) : mayC op l r = false := by
  cases hm : mayC op l r
  · rfl
  · exfalso
    apply h
    unfold mayC at hm
    simp only [Bool.and_eq_true, decide_eq_true_eq] at hm
    exact ⟨hm.1, hm.2.1, hm.2.2.1, hm.2.2.2.1, hm.2.2.2.2.1, hm.2.2.2.2.2⟩
theorem mayC_ops {op l r : Int} (h : mayC op l r = true) : 0 ≤ op ∧ op ≤ 12 := by
  unfold mayC at h
  simp only [Bool.and_eq_true, decide_eq_true_eq] at h
  exact ⟨h.1, h.2.1⟩
def belowV (n s : Int) : Bool := decide (0 ≤ n) && decide (n < s)
theorem kBelow_any (n s : Int) (w : World) : Calls Tryz.prog 84 #[.int .i64 n, .int .i64 s] w fun e w' => e = .returned (.bool (belowV n s)) ∧ w = w' := by
  have H : Hid (belowV n s = (decide (0 ≤ n) && decide (n < s))) := Lib.hid rfl
  by_cases h1 : 0 ≤ n
  · by_cases h2 : n < s
    · go_enter Tryz.func84, Tryz.ntmps84
      go_wp2
      go_ret
      exact ⟨by rw [H.out]; simp [h1, h2], rfl⟩
    · go_enter Tryz.func84, Tryz.ntmps84
      go_wp2
      go_ret
      exact ⟨by rw [H.out]; simp [h2], rfl⟩
  · have H2 := Lib.hid (show belowV n s = false by unfold belowV; rw [decide_eq_false h1]; rfl)
    go_enter Tryz.func84, Tryz.ntmps84
    go_wp2
    go_ret
    exact ⟨by rw [H2.out]; rfl, rfl⟩
theorem kBelow_yes {n s : Int} (h0 : 0 ≤ n) (h1 : n < s) (w : World) : Calls Tryz.prog 84 #[.int .i64 n, .int .i64 s] w fun e w' => e = .returned (.bool true) ∧ w = w' := by
  have h := kBelow_any n s w
  unfold belowV at h
  rw [decide_eq_true h0, decide_eq_true h1] at h
  exact h
theorem kBelow_no {n s : Int} (h : ¬ (0 ≤ n ∧ n < s)) (w : World) : Calls Tryz.prog 84 #[.int .i64 n, .int .i64 s] w fun e w' => e = .returned (.bool false) ∧ w = w' := by
  have h2 := kBelow_any n s w
  have h3 : belowV n s = false := by
    unfold belowV
    cases hd : decide (0 ≤ n) <;> cases he : decide (n < s) <;> first | rfl | exact absurd ⟨of_decide_eq_true hd, of_decide_eq_true he⟩ h
  rw [h3] at h2
  exact h2
theorem kMay_any (op l key pa pb hd r : Int) (w : World) : Calls Tryz.prog 67 #[(.agg #[.int .i64 op, .int .i64 l, .int .i64 key, .int .u64 pa, .int .u64 pb, .int .u64 hd, .int .i64 r])] w fun e w' => e = .returned (.bool (mayC op l r)) ∧ Below w.heap.size w w' := by
  by_cases h1 : 0 ≤ op ∧ op ≤ 12
  · have C1 := Lib.hid (fun W => kBelow_yes (n := op) (s := 13) h1.1 (by omega) W)
    by_cases h2 : 0 ≤ l ∧ l ≤ 3
    · have C2 := Lib.hid (fun W => kBelow_yes (n := l) (s := 4) h2.1 (by omega) W)
      by_cases h3 : 0 ≤ r ∧ r ≤ 40
      · have C3 := Lib.hid (fun W => kBelow_yes (n := r) (s := 41) h3.1 (by omega) W)
        have H := Lib.hid (mayC_yes h1.1 h1.2 h2.1 h2.2 h3.1 h3.2)
        clear h1 h2 h3
        go_enter Tryz.func67, Tryz.ntmps67
        go_upto_region 1 with fail
        generalize hW : World.alloc _ _ = W
        have u0 : W.cell? ⟨w.heap.size, 0, none⟩ = some (.int .i64 op) := by rw [← hW]; simp
        have u1 : W.cell? ⟨w.heap.size, 1, none⟩ = some (.int .i64 l) := by rw [← hW]; simp
        have u5 : W.cell? ⟨w.heap.size, 6, none⟩ = some (.int .i64 r) := by rw [← hW]; simp
        have hB : Below w.heap.size w W := by rw [← hW]; exact (Below.refl _ _).alloc (Nat.le_refl _) _
        clear hW
        generalize hz : w.heap.size = a1 at *
        have HZ := Lib.hid hz; clear hz
        have HB := Lib.hid hB; clear hB
        go_wp2_with (first | (with_reducible refine (C1.out _).mono ?_; rintro e w' ⟨rfl, rfl⟩) | (with_reducible refine (C2.out _).mono ?_; rintro e w' ⟨rfl, rfl⟩) | (with_reducible refine (C3.out _).mono ?_; rintro e w' ⟨rfl, rfl⟩))
        go_ret
        exact ⟨by rw [H.out]; rfl, by rw [HZ.out]; exact HB.out⟩
      · have C3 := Lib.hid (fun W => kBelow_no (n := r) (s := 41) (by omega) W)
        have H := Lib.hid (mayC_no (op := op) (l := l) (r := r) (fun h => h3 h.2.2.2.2))
        clear h1 h2 h3
        go_enter Tryz.func67, Tryz.ntmps67
        go_upto_region 1 with fail
        generalize hW : World.alloc _ _ = W
        have u0 : W.cell? ⟨w.heap.size, 0, none⟩ = some (.int .i64 op) := by rw [← hW]; simp
        have u1 : W.cell? ⟨w.heap.size, 1, none⟩ = some (.int .i64 l) := by rw [← hW]; simp
        have u5 : W.cell? ⟨w.heap.size, 6, none⟩ = some (.int .i64 r) := by rw [← hW]; simp
        have hB : Below w.heap.size w W := by rw [← hW]; exact (Below.refl _ _).alloc (Nat.le_refl _) _
        clear hW
        generalize hz : w.heap.size = a1 at *
        have HZ := Lib.hid hz; clear hz
        have HB := Lib.hid hB; clear hB
        go_wp2_with (first | (with_reducible refine (C1.out _).mono ?_; rintro e w' ⟨rfl, rfl⟩) | (with_reducible refine (C2.out _).mono ?_; rintro e w' ⟨rfl, rfl⟩) | (with_reducible refine (C3.out _).mono ?_; rintro e w' ⟨rfl, rfl⟩))
        go_ret
        exact ⟨by rw [H.out]; rfl, by rw [HZ.out]; exact HB.out⟩
    · have C2 := Lib.hid (fun W => kBelow_no (n := l) (s := 4) (by omega) W)
      have H := Lib.hid (mayC_no (op := op) (l := l) (r := r) (fun h => h2 ⟨h.2.2.1, h.2.2.2.1⟩))
      clear h1 h2
      go_enter Tryz.func67, Tryz.ntmps67
      go_upto_region 1 with fail
      generalize hW : World.alloc _ _ = W
      have u0 : W.cell? ⟨w.heap.size, 0, none⟩ = some (.int .i64 op) := by rw [← hW]; simp
      have u1 : W.cell? ⟨w.heap.size, 1, none⟩ = some (.int .i64 l) := by rw [← hW]; simp
      have u5 : W.cell? ⟨w.heap.size, 6, none⟩ = some (.int .i64 r) := by rw [← hW]; simp
      have hB : Below w.heap.size w W := by rw [← hW]; exact (Below.refl _ _).alloc (Nat.le_refl _) _
      clear hW
      generalize hz : w.heap.size = a1 at *
      have HZ := Lib.hid hz; clear hz
      have HB := Lib.hid hB; clear hB
      go_wp2_with (first | (with_reducible refine (C1.out _).mono ?_; rintro e w' ⟨rfl, rfl⟩) | (with_reducible refine (C2.out _).mono ?_; rintro e w' ⟨rfl, rfl⟩))
      go_ret
      exact ⟨by rw [H.out]; rfl, by rw [HZ.out]; exact HB.out⟩
  · have C1 := Lib.hid (fun W => kBelow_no (n := op) (s := 13) (by omega) W)
    have H := Lib.hid (mayC_no (op := op) (l := l) (r := r) (fun h => h1 ⟨h.1, h.2.1⟩))
    clear h1
    go_enter Tryz.func67, Tryz.ntmps67
    go_upto_region 1 with fail
    generalize hW : World.alloc _ _ = W
    have u0 : W.cell? ⟨w.heap.size, 0, none⟩ = some (.int .i64 op) := by rw [← hW]; simp
    have u1 : W.cell? ⟨w.heap.size, 1, none⟩ = some (.int .i64 l) := by rw [← hW]; simp
    have u5 : W.cell? ⟨w.heap.size, 6, none⟩ = some (.int .i64 r) := by rw [← hW]; simp
    have hB : Below w.heap.size w W := by rw [← hW]; exact (Below.refl _ _).alloc (Nat.le_refl _) _
    clear hW
    generalize hz : w.heap.size = a1 at *
    have HZ := Lib.hid hz; clear hz
    have HB := Lib.hid hB; clear hB
    go_wp2_with (with_reducible refine (C1.out _).mono ?_; rintro e w' ⟨rfl, rfl⟩)
    go_ret
    exact ⟨by rw [H.out]; rfl, by rw [HZ.out]; exact HB.out⟩
/-- The ops are thirteen. -/
theorem ops13 {op : Int} (h0 : 0 ≤ op) (h1 : op ≤ 12) : op = 0 ∨ op = 1 ∨ op = 2 ∨ op = 3 ∨ op = 4 ∨ op = 5 ∨ op = 6 ∨ op = 7 ∨ op = 8 ∨ op = 9 ∨ op = 10 ∨ op = 11 ∨ op = 12 := by omega
def looksB (op : Int) : Bool := op == 1 || (op == 4 || (op == 8 || op == 10))
def partN (op : Int) : Int := bif decide (op < 0) || decide (11 < op) then -1 else Int.tdiv op 3
theorem kLooks_any (op : Int) (w : World) : Calls Tryz.prog 108 #[.int .i64 op] w fun e w' => e = .returned (.bool (looksB op)) ∧ w = w' := by
  by_cases hop : op = 1 ∨ op = 4 ∨ op = 8 ∨ op = 10
  · rcases hop with rfl | rfl | rfl | rfl
    all_goals (go_enter Tryz.func108, Tryz.ntmps108; go_wp2; go_ret; exact ⟨rfl, rfl⟩)
  · have H : Hid (looksB op = false) := Lib.hid (by unfold looksB; simp; omega)
    have e1 : (op == 1) = false := by simp; omega
    have e2 : (op == 4) = false := by simp; omega
    have e3 : (op == 8) = false := by simp; omega
    have e4 : (op == 10) = false := by simp; omega
    clear hop
    go_enter Tryz.func108, Tryz.ntmps108
    go_wp2
    go_ret
    exact ⟨by rw [H.out]; rfl, rfl⟩
theorem kPart_any (op : Int) (w : World) : Calls Tryz.prog 73 #[.int .i64 op] w fun e w' => e = .returned (.int .i64 (partN op)) ∧ w = w' := by
  by_cases hop : 0 ≤ op ∧ op ≤ 12
  · rcases ops13 hop.1 hop.2 with rfl | rfl | rfl | rfl | rfl | rfl | rfl | rfl | rfl | rfl | rfl | rfl | rfl
    all_goals (clear hop; go_enter Tryz.func73, Tryz.ntmps73; go_wp2; go_ret; exact ⟨rfl, rfl⟩)
  · have H : Hid (partN op = -1) := Lib.hid (by
      unfold partN
      rcases Int.lt_or_le op 0 with h | h
      · rw [decide_eq_true h]; rfl
      · rw [decide_eq_true (show 11 < op by omega), Bool.or_true]; rfl)
    have e0 : (op == 0) = false := by simp; omega
    have e1 : (op == 1) = false := by simp; omega
    have e2 : (op == 2) = false := by simp; omega
    have e3 : (op == 3) = false := by simp; omega
    have e4 : (op == 4) = false := by simp; omega
    have e5 : (op == 5) = false := by simp; omega
    have e6 : (op == 6) = false := by simp; omega
    have e7 : (op == 7) = false := by simp; omega
    have e8 : (op == 8) = false := by simp; omega
    have e9 : (op == 9) = false := by simp; omega
    have e10 : (op == 10) = false := by simp; omega
    have e11 : (op == 11) = false := by simp; omega
    clear hop
    go_enter Tryz.func73, Tryz.ntmps73
    go_wp2
    go_ret
    exact ⟨by rw [H.out]; rfl, rfl⟩
end Go.Proofs.YtiafjbhekfpkbaaGreatDoor
namespace Go.Proofs.YtiafjbhekfpkbaaGreatDoor
set_option linter.unusedSimpArgs false
set_option linter.unusedVariables false
open Go.ChangeShapes Go.WideShapes Go.ChangeAt Go.RowKit

/-- An answer: a code, a pair, a handle, a number, a key. -/
structure Ans where
  e : Int
  a : Int
  b : Int
  h : Int
  n : Int
  k : Int
def Ans.cells (x : Ans) : Array Value := #[.int .i64 x.e, .int .u64 x.a, .int .u64 x.b, .int .u64 x.h, .int .i64 x.n, .int .i64 x.k]
def sameA (x y : Ans) : Bool := x.e == y.e && (x.a == y.a && (x.b == y.b && (x.h == y.h && (x.n == y.n && x.k == y.k))))
theorem sameA_self (x : Ans) : sameA x x = true := by simp [sameA]
section
variable (w : World)
theorem eqFields_ans (x y : Ans) : (Op.equalIn 10000 36 (.agg x.cells) (.agg y.cells)).run Tryz.prog w = .ok (sameA x y) w := by
  have hI : ∀ d (y z : Int), (Op.equalIn (d + 1) 3 (.int .i64 y) (.int .i64 z)).run Tryz.prog w = .ok (y == z) w := fun d y z => run_equalIn_int w d _ .i64 .i64 y z Tryz.underlying3
  have hL : ∀ d (y z : Int), (Op.equalIn (d + 1) 2 (.int .i64 y) (.int .i64 z)).run Tryz.prog w = .ok (y == z) w := fun d y z => run_equalIn_int w d _ .i64 .i64 y z Tryz.underlying2
  have hE : ∀ d (y z : Int), (Op.equalIn (d + 1) 34 (.int .i64 y) (.int .i64 z)).run Tryz.prog w = .ok (y == z) w := fun d y z => run_equalIn_int w d _ .i64 .i64 y z Tryz.underlying34
  have hU : ∀ d (y z : Int), (Op.equalIn (d + 1) 29 (.int .u64 y) (.int .u64 z)).run Tryz.prog w = .ok (y == z) w := fun d y z => run_equalIn_int w d _ .u64 .u64 y z Tryz.underlying29
  have hht : Tryz.prog.underlying 36 = some (.struct (Tryz.prog.fieldsOf 36)) := by simp only [Program.fieldsOf, Tryz.underlying36]
  have hhp : Tryz.prog.underlying 31 = some (.struct (Tryz.prog.fieldsOf 31)) := by simp only [Program.fieldsOf, Tryz.underlying31]
  have hP : ∀ (p q r s : Int), (Op.equalIn 9999 31 (.agg #[.int .u64 p, .int .u64 q]) (.agg #[.int .u64 r, .int .u64 s])).run Tryz.prog w = .ok (p == r && q == s) w := by
    intro p q r s
    have p0 : ∀ (p q : Int), (part 29 #[.int .u64 p, .int .u64 q] 0).run Tryz.prog w = .ok (.int .u64 p) w := fun p q => by simp [part, isAgg, run_underlying Tryz.underlying29]
    have p1 : ∀ (p q : Int), (part 29 #[.int .u64 p, .int .u64 q] 1).run Tryz.prog w = .ok (.int .u64 q) w := fun p q => by simp [part, isAgg, run_underlying Tryz.underlying29]
    rw [run_equalIn_agg w 9998 _ _ _ hhp (by kernel_rfl)]
    simp only [Program.fieldsOf, Tryz.underlying31, Op.eqFields, Sem.run_ite, Sem.run_bind, p0, p1, Result.andThen_ok, hU]
    cases (p == r) <;> cases (q == s) <;> simp
  have p0 : ∀ x : Ans, (part 34 x.cells 0).run Tryz.prog w = .ok (.int .i64 x.e) w := fun x => by simp [part, isAgg, run_underlying Tryz.underlying34, Ans.cells]
  have p1 : ∀ x : Ans, (part 31 x.cells 1).run Tryz.prog w = .ok (.agg #[.int .u64 x.a, .int .u64 x.b]) w := fun x => by kernel_rfl
  have p2 : ∀ x : Ans, (part 29 x.cells 3).run Tryz.prog w = .ok (.int .u64 x.h) w := fun x => by simp [part, isAgg, run_underlying Tryz.underlying29, Ans.cells]
  have p3 : ∀ x : Ans, (part 3 x.cells 4).run Tryz.prog w = .ok (.int .i64 x.n) w := fun x => by simp [part, isAgg, run_underlying Tryz.underlying3, Ans.cells]
  have p4 : ∀ x : Ans, (part 2 x.cells 5).run Tryz.prog w = .ok (.int .i64 x.k) w := fun x => by simp [part, isAgg, run_underlying Tryz.underlying2, Ans.cells]
  rw [run_equalIn_agg w 9999 _ _ _ hht (by kernel_rfl)]
  unfold sameA
  simp only [Program.fieldsOf, Tryz.underlying36, Op.eqFields, Sem.run_ite, Sem.run_bind, p0, p1, p2, p3, p4, Result.andThen_ok, hI, hL, hE, hU, hP]
  cases (x.e == y.e) <;> cases (x.a == y.a) <;> cases (x.b == y.b) <;> cases (x.h == y.h) <;> cases (x.n == y.n) <;> cases (x.k == y.k) <;> simp
theorem eql_ans (x y : Ans) : (binOp .eql 36 (.agg x.cells) (.agg y.cells)).run Tryz.prog w = .ok (.bool (sameA x y)) w := by
  rw [run_eql_struct, eqFields_ans]; rfl
theorem neq_ans (x y : Ans) : (binOp .neq 36 (.agg x.cells) (.agg y.cells)).run Tryz.prog w = .ok (.bool (!sameA x y)) w := by
  rw [run_neq_struct, eqFields_ans]; rfl
end
theorem kSame_any (x y : Ans) (w : World) : Calls Tryz.prog 54 #[.agg x.cells, .agg y.cells] w fun r w' => r = .returned (.bool (sameA x y)) ∧ Below w.heap.size w w' := by
  have hE : ∀ W, (binOp .eql 36 (.agg #[.int .i64 x.e, .int .u64 x.a, .int .u64 x.b, .int .u64 x.h, .int .i64 x.n, .int .i64 x.k]) (.agg #[.int .i64 y.e, .int .u64 y.a, .int .u64 y.b, .int .u64 y.h, .int .i64 y.n, .int .i64 y.k])).run Tryz.prog W = .ok (.bool (sameA x y)) W := fun W => eql_ans W x y
  have hX : x.cells = #[.int .i64 x.e, .int .u64 x.a, .int .u64 x.b, .int .u64 x.h, .int .i64 x.n, .int .i64 x.k] := rfl
  have hY : y.cells = #[.int .i64 y.e, .int .u64 y.a, .int .u64 y.b, .int .u64 y.h, .int .i64 y.n, .int .i64 y.k] := rfl
  rw [hX, hY]
  clear hX hY
  go_enter Tryz.func54, Tryz.ntmps54
  go_wp2
  go_ret
  exact ⟨rfl, ((Below.refl _ _).alloc (Nat.le_refl _) _).alloc (by simp) _⟩
end Go.Proofs.YtiafjbhekfpkbaaGreatDoor
