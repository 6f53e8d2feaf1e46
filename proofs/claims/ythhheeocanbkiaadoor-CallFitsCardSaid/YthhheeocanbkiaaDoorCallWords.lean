/- What ops are called: package call's and the document's answers, and which op a word is. -/
import Derived.Test.YthhheeocanbkiaaDoorCall
import Derived.Deep.DeepCutAuto
namespace Go.Proofs.YthhheeocanbkiaaDoor
open Go.ChangeShapes Go.WideShapes Go.ChangeAt Go.RowKit

def wordsL : List (List UInt8) := [[112, 117, 116], [103, 101, 116], [100, 101, 108], [115, 116, 111, 114, 101], [102, 101, 116, 99, 104], [100, 114, 111, 112], [112, 117, 115, 104], [112, 111, 112], [112, 101, 101, 107], [110, 101, 119], [114, 101, 97, 100], [102, 114, 101, 101], [116, 101, 110, 100]]
def wordL (op : Int) : List UInt8 := bif decide (0 ≤ op ∧ op < 13) then wordsL.getD op.toNat [] else []
def wordsF : Nat → Value := fun i => .string (sB (wordsL.getD i []))
theorem wordL_nat {k : Nat} (hk : k < 13) : wordL k = wordsL.getD k [] := by unfold wordL; rw [decide_eq_true (by omega)]; rfl
theorem wordL_no {op : Int} (h : ¬ (0 ≤ op ∧ op < 13)) : wordL op = [] := by unfold wordL; rw [decide_eq_false h]; rfl
theorem word_len (op : Int) : (wordL op).length ≤ 5 := by
  unfold wordL
  cases hd : decide (0 ≤ op ∧ op < 13)
  · exact Nat.zero_le _
  · have h := of_decide_eq_true hd
    have h2 : op.toNat < 13 := by omega
    have : ∀ k, k < 13 → (wordsL.getD k []).length ≤ 5 := by decide
    exact this _ h2
theorem wordsF_one (n : Nat) : (rowOf n wordsF).all (·.oneCell') = true := rowOf_one fun _ => rfl

set_option maxHeartbeats 1000000 in
theorem r9Word_any (c : Int) (w : World) : Calls Tryd.prog 6 #[.int .i64 c] w fun e w' => e = .returned (.string (sB (wordL c))) ∧ Below w.heap.size w w' := by
  by_cases hin : 0 ≤ c ∧ c < 13
  · obtain ⟨k, rfl⟩ : ∃ k : Nat, c = k := ⟨c.toNat, by omega⟩
    have hk : k < 13 := by omega
    rw [wordL_nat hk]
    clear hin
    go_enter Tryd.func6, Tryd.ntmps6
    go_upto_region 2 with fail
    generalize hW : World.alloc _ _ = W
    have hr : Row W w.heap.size 9 13 wordsF := by rw [← hW]; exact Row.new _ _ _ _ _ rfl
    have hB : Below w.heap.size w W := by rw [← hW]; exact (Below.refl _ _).alloc (Nat.le_refl _) _
    have hc := hr.cell hk
    clear hW hr
    generalize hz : w.heap.size = a1 at *
    have HZ := Lib.hid hz; have HB := Lib.hid hB
    clear hz hB
    unfold wordsF at hc
    have t1 : ((k : Nat) : Int) < 13 := by omega
    go_wp2_with fail
    go_ret
    exact ⟨rfl, by rw [HZ.out]; exact HB.out⟩
  · rw [wordL_no hin]
    by_cases hn : c < 0
    · clear hin
      go_enter Tryd.func6, Tryd.ntmps6
      go_wp2_with fail
      go_ret
      exact ⟨rfl, (Below.refl _ _).alloc (Nat.le_refl _) _⟩
    · have hg : ¬ c < 13 := by omega
      clear hin
      go_enter Tryd.func6, Tryd.ntmps6
      go_wp2_with fail
      go_ret
      exact ⟨rfl, (Below.refl _ _).alloc (Nat.le_refl _) _⟩
set_option maxHeartbeats 1000000 in
theorem kWords_any (w : World) : Calls Tryd.prog 21 #[] w fun e w' => e = .returned (.agg (rowOf 13 wordsF)) ∧ Below w.heap.size w w' := by
  go_enter Tryd.func21, Tryd.ntmps21
  go_wp2_with fail
  have hr : Row (w.alloc (.cells (rowOf 13 wordsF) 50)) w.heap.size 50 13 wordsF := Row.new _ _ _ _ _ rfl
  exact bodyPost_ret (results_cell_row (p := 0) (ty := 50) (by kernel_rfl) _ _ w.heap.size 50 (rowOf 13 wordsF) (0, 0) _ rfl hr Tryd.underlying50 rfl (by kernel_rfl)) rfl ⟨rfl, (Below.refl _ _).alloc (Nat.le_refl _) _⟩
/- An element of what words tells. -/
section
variable (w : World)
theorem words_0 : (Instr.index 50 (.agg (rowOf 13 wordsF)) (.int .i64 0)).run Tryd.prog w = .ok (.string (sB (wordsL.getD 0 []))) w := by kernel_rfl
theorem words_1 : (Instr.index 50 (.agg (rowOf 13 wordsF)) (.int .i64 1)).run Tryd.prog w = .ok (.string (sB (wordsL.getD 1 []))) w := by kernel_rfl
theorem words_2 : (Instr.index 50 (.agg (rowOf 13 wordsF)) (.int .i64 2)).run Tryd.prog w = .ok (.string (sB (wordsL.getD 2 []))) w := by kernel_rfl
theorem words_3 : (Instr.index 50 (.agg (rowOf 13 wordsF)) (.int .i64 3)).run Tryd.prog w = .ok (.string (sB (wordsL.getD 3 []))) w := by kernel_rfl
theorem words_4 : (Instr.index 50 (.agg (rowOf 13 wordsF)) (.int .i64 4)).run Tryd.prog w = .ok (.string (sB (wordsL.getD 4 []))) w := by kernel_rfl
theorem words_5 : (Instr.index 50 (.agg (rowOf 13 wordsF)) (.int .i64 5)).run Tryd.prog w = .ok (.string (sB (wordsL.getD 5 []))) w := by kernel_rfl
theorem words_6 : (Instr.index 50 (.agg (rowOf 13 wordsF)) (.int .i64 6)).run Tryd.prog w = .ok (.string (sB (wordsL.getD 6 []))) w := by kernel_rfl
theorem words_7 : (Instr.index 50 (.agg (rowOf 13 wordsF)) (.int .i64 7)).run Tryd.prog w = .ok (.string (sB (wordsL.getD 7 []))) w := by kernel_rfl
theorem words_8 : (Instr.index 50 (.agg (rowOf 13 wordsF)) (.int .i64 8)).run Tryd.prog w = .ok (.string (sB (wordsL.getD 8 []))) w := by kernel_rfl
theorem words_9 : (Instr.index 50 (.agg (rowOf 13 wordsF)) (.int .i64 9)).run Tryd.prog w = .ok (.string (sB (wordsL.getD 9 []))) w := by kernel_rfl
theorem words_10 : (Instr.index 50 (.agg (rowOf 13 wordsF)) (.int .i64 10)).run Tryd.prog w = .ok (.string (sB (wordsL.getD 10 []))) w := by kernel_rfl
theorem words_11 : (Instr.index 50 (.agg (rowOf 13 wordsF)) (.int .i64 11)).run Tryd.prog w = .ok (.string (sB (wordsL.getD 11 []))) w := by kernel_rfl
theorem words_12 : (Instr.index 50 (.agg (rowOf 13 wordsF)) (.int .i64 12)).run Tryd.prog w = .ok (.string (sB (wordsL.getD 12 []))) w := by kernel_rfl
end
theorem words_at (k : Nat) (hk : k < 13) (w : World) : (Instr.index 50 (.agg (rowOf 13 wordsF)) (.int .i64 k)).run Tryd.prog w = .ok (.string (sB (wordsL.getD k []))) w :=
  match k, hk with
  | 0, _ => words_0 w
  | 1, _ => words_1 w
  | 2, _ => words_2 w
  | 3, _ => words_3 w
  | 4, _ => words_4 w
  | 5, _ => words_5 w
  | 6, _ => words_6 w
  | 7, _ => words_7 w
  | 8, _ => words_8 w
  | 9, _ => words_9 w
  | 10, _ => words_10 w
  | 11, _ => words_11 w
  | 12, _ => words_12 w
set_option maxHeartbeats 1000000 in
theorem kWord_any (c : Int) (w : World) : Calls Tryd.prog 10 #[.int .i64 c] w fun e w' => e = .returned (.string (sB (wordL c))) ∧ Below w.heap.size w w' := by
  have C1 := Lib.hid (fun W => kWords_any W)
  by_cases hin : 0 ≤ c ∧ c < 13
  · obtain ⟨k, rfl⟩ : ∃ k : Nat, c = k := ⟨c.toNat, by omega⟩
    have hk : k < 13 := by omega
    rw [wordL_nat hk]
    have x1 := words_at k hk
    have C2 := Lib.hid (fun W => kBelow_yes (n := k) (s := 13) hin.1 hin.2 W)
    generalize sB (wordsL.getD k []) = q at *
    clear hin hk
    go_enter Tryd.func10, Tryd.ntmps10
    go_wp2_with (first | (with_reducible refine (C2.out _).mono ?_; rintro e w' ⟨rfl, rfl⟩) | (refine (C1.out _).mono ?_; rintro e w1 ⟨rfl, hb1⟩))
    go_ret
    exact ⟨rfl, hb1⟩
  · rw [wordL_no hin]
    have C2 := Lib.hid (fun W => kBelow_no (n := c) (s := 13) hin W)
    clear hin
    go_enter Tryd.func10, Tryd.ntmps10
    go_wp2_with (with_reducible refine (C2.out _).mono ?_; rintro e w' ⟨rfl, rfl⟩)
    go_ret
    exact ⟨rfl, Below.refl _ _⟩
/-- Which op a word is, of the first k. -/
def opN (l : List UInt8) : Nat → Int
  | 0 => 0
  | k + 1 => bif wordsL.getD k [] == l then k else opN l k
def isW (l : List UInt8) : Nat → Bool
  | 0 => false
  | k + 1 => bif wordsL.getD k [] == l then true else isW l k
theorem hit {l : List UInt8} {k : Nat} (hk : k < 13) (h : (wordsL.getD k [] == l) = true) : opN l 13 = k ∧ isW l 13 = true := by
  obtain rfl := eq_of_beq h
  have : ∀ k, k < 13 → opN (wordsL.getD k []) 13 = k ∧ isW (wordsL.getD k []) 13 = true := by decide
  exact this k hk
theorem miss {l : List UInt8} : ∀ n, (∀ k, k < n → (wordsL.getD k [] == l) = false) → opN l n = 0 ∧ isW l n = false
  | 0, _ => ⟨rfl, rfl⟩
  | n + 1, h => by
    obtain ⟨h1, h2⟩ := miss n (fun k hk => h k (by omega))
    have h3 := h n (by omega)
    unfold opN isW
    rw [h3, h1, h2]
    exact ⟨rfl, rfl⟩
theorem sB_list (l : List UInt8) : (sB l).toList = l := ByteArray.toList_mk l
set_option maxHeartbeats 1000000 in
theorem kOp_any (l : List UInt8) (w : World) : Calls Tryd.prog 7 #[.string (sB l)] w fun e w' => e = .returned (.tuple #[.int .i64 (opN l 13), .bool (isW l 13)]) ∧ Below w.heap.size w w' := by
  have C1 := Lib.hid (fun W => kWords_any W)
  have HH := Lib.hid (fun k => @hit l k)
  have HM := Lib.hid (@miss l 13)
  have HL := Lib.hid (fun k => show ((sB (wordsL.getD k [])).toList == (sB l).toList) = (wordsL.getD k [] == l) by rw [sB_list, sB_list])
  generalize sB l = S at *
  go_enter Tryd.func7, Tryd.ntmps7
  go_upto_region 2 with (refine (C1.out _).mono ?_; rintro e w1 ⟨rfl, hb1⟩)
  have HB := Lib.hid hb1
  clear hb1 C1
  go_loop [7] (fun i => ∃ k : Nat, i = .int .i64 k ∧ k ≤ 13 ∧ Hid (∀ j, j < k → (wordsL.getD j [] == l) = false)) (fun i => 13 - (intOf i).toNat)
  case atStart => exact ⟨0, rfl, by omega, Lib.hid (fun j hj => by omega)⟩
  case round =>
    obtain ⟨k, rfl, hk, hs⟩ := hrel
    by_cases hlt : k < 13
    · have x1 := words_at k hlt
      have q1 : (k : Int) < 13 := by omega
      have HLk := Lib.hid (HL.out k)
      have HX : Hid ((wordsL.getD k [] == l) = false → ∀ j, j < k + 1 → (wordsL.getD j [] == l) = false) := Lib.hid (fun h j hj => by
        rcases Nat.lt_or_ge j k with h3 | h3
        · exact hs.out j h3
        · obtain rfl : j = k := by omega
          exact h)
      have HY := Lib.hid (HH.out k hlt)
      clear hs HH HM HL
      generalize sB (wordsL.getD k []) = q at *
      cases hb : (wordsL.getD k [] == l)
      · have hc := HLk.out
        rw [hb] at hc
        have HX2 := Lib.hid (HX.out hb)
        clear HX HY HLk hb
        go_wp2_with fail
        go_round
        case rel => exact ⟨k + 1, by go_num, by omega, HX2⟩
        case measure => simp [intOf]; omega
      · have hc := HLk.out
        rw [hb] at hc
        have HX2 := Lib.hid (HY.out hb)
        clear HX HY HLk hb
        go_wp2_with fail
        go_ret2
        exact ⟨by rw [HX2.out.1, HX2.out.2]; rfl, HB.out⟩
    · obtain rfl : k = 13 := by omega
      have HX2 := Lib.hid (HM.out hs.out)
      clear hs HH HM HL
      go_wp2_with fail
      go_ret2
      exact ⟨by rw [HX2.out.1, HX2.out.2]; rfl, HB.out⟩
end Go.Proofs.YthhheeocanbkiaaDoor
