/- Where a place is, as the document's answer of layer 5 finds it; places compared. -/
import Derived.Test.YtncemjpfdblecaaRef5
import Derived.Deep.QuietTactic
import Derived.BigQuiet
namespace Go.Proofs.Ytncemjpfdblecaa
open Go.ChangeShapes Go.WideShapes Go.ChangeAt Go.RowKit

theorem eqI_four (a b : Nat → Int) : eqI 4 a b = (a 0 == b 0 && (a 1 == b 1 && (a 2 == b 2 && a 3 == b 3))) := by
  unfold eqI
  show ((a 0 == b 0) && ((a 1 == b 1) && ((a 2 == b 2) && ((a 3 == b 3) && true)))) = _
  rw [Bool.and_true]
theorem fold4 (x : Nat → Int) : #[Value.int .i64 (x 0), .int .i64 (x 1), .int .i64 (x 2), .int .i64 (x 3)] = rowOf 4 (ints x) := rfl
theorem eqFields_four (t : TypeId) (ht : Try.prog.underlying t = Try.prog.underlying 41) (hp : Try.prog.stoodInHeld t = false) (a b : Nat → Int) (w : World) :
    (Op.equalIn 10000 t (.agg (rowOf 4 (ints a))) (.agg (rowOf 4 (ints b)))).run Try.prog w = .ok (eqI 4 a b) w := by
  have p1 : ∀ (x : Nat → Int) i, i < 4 → (part 3 (rowOf 4 (ints x)) i).run Try.prog w = .ok (.int .i64 (x i)) w := fun x i hi => by
    have := rowOf_get (ints x) hi
    simp [part, isAgg, run_underlying Try.underlying3, this, ints]
  have hI : ∀ y z : Int, (Op.equalIn 9999 3 (.int .i64 y) (.int .i64 z)).run Try.prog w = .ok (y == z) w := fun y z => run_equalIn_int w 9998 _ .i64 .i64 y z Try.underlying3
  have hht : Try.prog.underlying t = some (.struct (Try.prog.fieldsOf t)) := by simp only [Program.fieldsOf, ht, Try.underlying41]
  rw [run_equalIn_agg w 9999 _ _ _ hht hp, eqI_four]
  simp only [Program.fieldsOf, ht, Try.underlying41, Op.eqFields, Sem.run_ite, Sem.run_bind, p1 _ _ (show 0 < 4 by omega), p1 _ _ (show 1 < 4 by omega), p1 _ _ (show 2 < 4 by omega), p1 _ _ (show 3 < 4 by omega), Result.andThen_ok, hI]
  cases (a 0 == b 0) <;> cases (a 1 == b 1) <;> cases (a 2 == b 2) <;> cases (a 3 == b 3) <;> simp
theorem eql_P (a b : Nat → Int) (w : World) : (binOp .eql 41 (.agg (rowOf 4 (ints a))) (.agg (rowOf 4 (ints b)))).run Try.prog w = .ok (.bool (eqI 4 a b)) w := by
  rw [run_eql_struct, eqFields_four _ rfl (by kernel_rfl)]; rfl
theorem neq_P (a b : Nat → Int) (w : World) : (binOp .neq 41 (.agg (rowOf 4 (ints a))) (.agg (rowOf 4 (ints b)))).run Try.prog w = .ok (.bool (!eqI 4 a b)) w := by
  rw [run_neq_struct, eqFields_four _ rfl (by kernel_rfl)]; rfl
theorem eql_Place (a b : Nat → Int) (w : World) : (binOp .eql 26 (.agg (rowOf 4 (ints a))) (.agg (rowOf 4 (ints b)))).run Try.prog w = .ok (.bool (eqI 4 a b)) w := by
  rw [run_eql_struct, eqFields_four _ (by kernel_rfl) (by kernel_rfl)]; rfl

/-- Where a place is among the first n; -1: nowhere. -/
def atN (c : Nat → Int) (n : Nat) (x : Nat → Int) : Int := match (List.range n).find? fun i => eqI 4 (plc c i) x with
  | some i => (i : Int)
  | none => -1
theorem atN_no {c : Nat → Int} {n : Nat} {x : Nat → Int} (h : ∀ i, i < n → eqI 4 (plc c i) x = false) : atN c n x = -1 := by
  unfold atN
  rw [List.find?_eq_none.2 (fun i hi => by simp [h i (by simpa using hi)])]
theorem atN_yes {c : Nat → Int} {n k : Nat} {x : Nat → Int} (hk : k < n) (h : ∀ i, i < k → eqI 4 (plc c i) x = false) (h2 : eqI 4 (plc c k) x = true) : atN c n x = k := by
  unfold atN
  have : (List.range n).find? (fun i => eqI 4 (plc c i) x) = some k := by
    rw [List.find?_eq_some_iff_append]
    refine ⟨h2, List.range k, (List.range (n - k - 1)).map (k + 1 + ·), ?_, fun i hi => by simp [h i (by simpa using hi)]⟩
    apply List.ext_getElem?
    intro i
    by_cases h3 : i < n
    · rw [List.getElem?_range h3]
      rcases Nat.lt_or_ge i k with h4 | h4
      · rw [List.getElem?_append_left (by simpa using h4), List.getElem?_range h4]
      · rw [List.getElem?_append_right (by simpa using h4), List.length_range]
        rcases Nat.eq_zero_or_pos (i - k) with h5 | h5
        · rw [h5]; simp; omega
        · obtain ⟨j, hj⟩ := Nat.exists_eq_add_of_lt h5
          rw [show i - k = j + 1 by omega, List.getElem?_cons_succ, List.getElem?_map, List.getElem?_range (by omega)]
          simp; omega
    · rw [List.getElem?_eq_none (by simpa using h3), List.getElem?_eq_none (by simp; omega)]
  rw [this]

/-- The slice's cells are the first n places. -/
def Places (w : World) (c : Nat → Int) (g n : Nat) : Prop := ∀ i j, i < n → j < 4 → w.cell? ⟨g, i * 4 + j, none⟩ = some (.int .i64 (plc c i j))
theorem places_of_own {w : World} {base : Nat} {e : TypeId} {v : Value} {c : Nat → Int} {n : Nat} (h : w.ownsRow base e 4 v n (flat c n)) (hn : 0 < n) : ∃ g cap, v = .slice (some ⟨g, 0, none⟩) n cap ∧ base ≤ g ∧ g < w.heap.size ∧ Places w c g n := by
  rcases h.2 with ⟨_, h0⟩ | ⟨g, cap, cur, rfl, h1, hh, _⟩
  · omega
  · refine ⟨g, cap, rfl, h1, ?_, fun i j hi hj => by rw [h.cellAt (i * 4 + j) (by omega), flat_get c n i j hi hj]⟩
    rcases Nat.lt_or_ge g w.heap.size with hlt | hge
    · exact hlt
    · rw [Array.getElem?_eq_none hge] at hh; cases hh
theorem Places.keep {w w' : World} {c : Nat → Int} {g n : Nat} (h : Places w c g n) (hg : g < w.heap.size) (hb : Below w.heap.size w w') : Places w' c g n := fun i j hi hj => by rw [hb.cell (by exact hg)]; exact h i j hi hj

set_option maxRecDepth 100000 in
set_option maxHeartbeats 1000000 in
theorem r5At_any (c : Nat → Int) (g n cap : Nat) (hn : n ≤ 1000000) (x : Nat → Int) (w : World) (hg : g < w.heap.size) (hP : Places w c g n) :
    Calls Try.prog 14 #[.slice (some ⟨g, 0, none⟩) n cap, .agg (rowOf 4 (ints x))] w fun e w' => e = .returned (.int .i64 (atN c n x)) ∧ Below w.heap.size w w' := by
  have hE := eql_P
  have fx := fold4 x
  have HN := Lib.hid (@atN_no c n x)
  have HY := Lib.hid (fun k => @atN_yes c n k x)
  go_enter Try.func14, Try.ntmps14
  go_upto_region 1 with fail
  generalize hW : World.alloc _ _ = W
  have hr : Row W w.heap.size 41 4 (ints x) := by rw [← hW]; exact Row.new _ _ _ _ _ rfl
  have hB : Below w.heap.size w W := by rw [← hW]; exact (Below.refl _ _).alloc (Nat.le_refl _) _
  have hq : Places W c g n := hP.keep hg hB
  clear hW hP
  generalize hz : w.heap.size = a1 at *
  have HZ := Lib.hid hz; clear hz
  have hc : ∀ wr, Drew W wr → wr.cell? ⟨a1, 0, none⟩ = some (.int .i64 (x 0)) ∧ wr.cell? ⟨a1, 1, none⟩ = some (.int .i64 (x 1)) ∧ wr.cell? ⟨a1, 2, none⟩ = some (.int .i64 (x 2)) ∧ wr.cell? ⟨a1, 3, none⟩ = some (.int .i64 (x 3)) := fun wr hd => by
    simp only [hd.cell]
    exact ⟨hr.cell (i := 0) (by omega), hr.cell (i := 1) (by omega), hr.cell (i := 2) (by omega), hr.cell (i := 3) (by omega)⟩
  have HC := Lib.hid hc; clear hc
  have HQ := Lib.hid hq; clear hq hr
  go_wp2_with fail
  go_loopw [5] (fun i wr => ∃ k : Nat, i = .int .i64 k ∧ k ≤ n ∧ Hid (∀ j, j < k → eqI 4 (plc c j) x = false) ∧ Drew W wr) (fun i _ => n - (intOf i).toNat)
  case atStart => exact ⟨0, rfl, by omega, Lib.hid (fun j hj => by omega), Drew.refl _⟩
  case round =>
    obtain ⟨k, rfl, hk, hs, hd⟩ := hrel
    have hBr := hB.trans (hd.below _)
    by_cases hlt : k < n
    · obtain ⟨v0, v1, v2, v3⟩ := HC.out _ hd
      have v4 : wr.cell? ⟨g, k * 4, none⟩ = some (.int .i64 (plc c k 0)) := by rw [hd.cell]; exact HQ.out k 0 hlt (by omega)
      have v5 : wr.cell? ⟨g, k * 4 + 1, none⟩ = some (.int .i64 (plc c k 1)) := by rw [hd.cell]; exact HQ.out k 1 hlt (by omega)
      have v6 : wr.cell? ⟨g, k * 4 + 2, none⟩ = some (.int .i64 (plc c k 2)) := by rw [hd.cell]; exact HQ.out k 2 hlt (by omega)
      have v7 : wr.cell? ⟨g, k * 4 + 3, none⟩ = some (.int .i64 (plc c k 3)) := by rw [hd.cell]; exact HQ.out k 3 hlt (by omega)
      have fy := fold4 (plc c k)
      have q0 : (0 : Int) ≤ (k : Int) := by omega
      have q1 : (k : Int) < (n : Int) := by omega
      have HX : Hid (eqI 4 (plc c k) x = false → ∀ j, j < k + 1 → eqI 4 (plc c j) x = false) := Lib.hid (fun h j hj => by
        rcases Nat.lt_or_ge j k with h3 | h3
        · exact hs.out j h3
        · obtain rfl : j = k := by omega
          exact h)
      have HY2 : Hid (eqI 4 (plc c k) x = true → atN c n x = k) := Lib.hid (HY.out k hlt hs.out)
      clear hs HN HY HQ HC
      generalize plc c k = y at *
      cases hb : eqI 4 y x
      · have HX2 := Lib.hid (HX.out hb)
        clear HX HY2
        go_wp2_with fail
        go_quiet (fail)
        go_wp2
        go_roundw
        case rel => exact ⟨k + 1, by go_num, by omega, HX2, hd.more _⟩
        case measure => simp [intOf]; omega
      · have HX2 := Lib.hid (HY2.out hb)
        clear HX HY2
        go_wp2_with fail
        go_quiet (fail)
        go_wp2
        go_ret
        exact ⟨by rw [HX2.out]; rfl, by rw [HZ.out]; exact below_drewN hBr _⟩
    · obtain rfl : k = n := by omega
      have HX2 := Lib.hid (HN.out hs.out)
      clear hs HN HY HQ HC
      go_wp2
      go_ret
      exact ⟨by rw [HX2.out]; rfl, by rw [HZ.out]; exact hBr⟩
end Go.Proofs.Ytncemjpfdblecaa
