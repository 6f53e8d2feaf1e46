/- The document's warden: New. -/
import Derived.Test.YtlldhkcimlmaoaaRef7Do
import Derived.Deep.RegionLaw
import Derived.WalkSpells
namespace Go.Proofs.Ytlldhkcimlmaoaa
open Go.ChangeShapes Go.WideShapes Go.ChangeAt Go.RowKit Go.Maps

def zslots : Nat → Value := fun j => bif decide (j % 2 = 0) then .bool false else .int .i64 0
theorem made2 (n : Nat) : madeCells #[.bool false, .int .i64 0] (n * 2) = rowOf (n * 2) zslots := by
  apply Array.ext_getElem?
  intro i
  by_cases hi : i < n * 2
  · rw [rowOf_get _ hi]
    unfold madeCells
    rw [Array.getElem?_map, Array.getElem?_range, if_pos hi]
    show some ((#[Value.bool false, Value.int IntKind.i64 0])[i % 2]!) = some (zslots i)
    unfold zslots
    by_cases e : i % 2 = 0
    · rw [e, decide_eq_true rfl]; rfl
    · rw [show i % 2 = 1 by omega, decide_eq_false (by omega)]; rfl
  · rw [Array.getElem?_eq_none (by rw [size_madeCells]; omega), Array.getElem?_eq_none (by rw [rowOf_size]; omega)]
theorem zslots_is (a n i j : Nat) : zslots j = slotsF (ward0 a n) i j := rfl

/-- The levels' lists so far. -/
def listsN (Bk : Nat → Nat) (n k : Nat) : List Value := (List.range k).map fun i => .slice (some ⟨Bk i, 0, none⟩) n n
theorem listsN_len (Bk : Nat → Nat) (n k : Nat) : (listsN Bk n k).length = k := by simp [listsN]
theorem listsN_get (Bk : Nat → Nat) (n k i : Nat) (hi : i < k) : (listsN Bk n k)[i]? = some (.slice (some ⟨Bk i, 0, none⟩) n n) := by simp [listsN, hi]
theorem listsN_congr {Bk Bk' : Nat → Nat} (n k : Nat) (h : ∀ i, i < k → Bk i = Bk' i) : listsN Bk n k = listsN Bk' n k := by
  unfold listsN
  exact List.map_congr_left fun i hi => by rw [h i (by simpa using hi)]
theorem listsN_succ (Bk : Nat → Nat) (n k g : Nat) : listsN Bk n k ++ [.slice (some ⟨g, 0, none⟩) n n] = listsN (fun i => if i = k then g else Bk i) n (k + 1) := by
  unfold listsN
  rw [List.range_succ, List.map_append]
  congr 1
  · exact List.map_congr_left fun i hi => by
      have : i < k := by simpa using hi
      show _ = Value.slice (some ⟨if i = k then g else Bk i, 0, none⟩) n n
      rw [if_neg (by omega)]
  · simp
/-- What holds between two rounds: where the levels' list lies so far, and the slots of each. -/
structure NewR (w : World) (a1 a2 n k : Nat) (v : Value) (Bk : Nat → Nat) (w' : World) : Prop where
  below : Below a1 w w'
  w : Row w' a2 30 2 (fun j => match j with | 0 => v | _ => .int .i64 0)
  lists : w'.ownsRow a1 54 1 v k (listsN Bk n k)
  slots : ∀ i, i < k → Row w' (Bk i) 61 (n * 2) zslots ∧ a1 ≤ Bk i
  out : Row w' a1 30 2 (fun j => match j with | 0 => .slice none 0 0 | _ => .int .i64 0)
  lt : a1 < a2

theorem grown_setCell (w : World) (p : Addr) (u : Value) : w.grownBy (w.setCell p u) (some p.block) :=
  ⟨rfl, rfl, rfl, by simp, fun i _ hi => Below.heap_setCell w p u i (fun e => hi (by rw [e]))⟩
theorem row_ne {w : World} {g g' : Nat} {t t' : TypeId} {n n' : Nat} {f f' : Nat → Value} (h : Row w g t n f) (h' : Row w g' t' n' f') (hne : t ≠ t') : g ≠ g' := by
  rintro rfl
  unfold Row at h h'
  rw [h] at h'
  injection h' with h'
  injection h' with _ ht
  exact hne ht
theorem newR_next {w wr w1 : World} {a1 n k g1 c1 : Nat} {v : Value} {Bk : Nat → Nat} (R : NewR w a1 (a1 + 1) n k v Bk wr)
    (hw1 : w1.ownsRow a1 54 1 (.slice (some ⟨g1, 0, none⟩) (k + 1) c1) (k + 1) (listsN Bk n k ++ [.slice (some ⟨wr.heap.size, 0, none⟩) n n]))
    (hgr : ((wr.alloc (.cells (rowOf (n * 2) zslots) 61)).alloc (.cells #[.slice (some ⟨wr.heap.size, 0, none⟩) n n] 54)).drew.grownBy w1 v.ownBlock) :
    NewR w a1 (a1 + 1) n (k + 1) (.slice (some ⟨g1, 0, none⟩) (k + 1) c1) (fun i => if i = k then wr.heap.size else Bk i) (w1.setCell ⟨a1 + 1, 0, none⟩ (.slice (some ⟨g1, 0, none⟩) (k + 1) c1)) := by
  have hl := R.lists
  have hsz : a1 + 1 < wr.heap.size := R.w.lt
  have hm : ∀ {g m : Nat} {t : TypeId} {f : Nat → Value}, Row wr g t m f → t ≠ 54 → Row w1 g t m f := fun hr hne =>
    (((hr.alloc _).alloc _).drew).grown hgr (own_row_ne hl hr (Ne.symm hne))
  have hnew : Row w1 wr.heap.size 61 (n * 2) zslots := by
    have h0 := (((Row.new wr (rowOf (n * 2) zslots) 61 zslots (n * 2) rfl).alloc (.cells #[.slice (some ⟨wr.heap.size, 0, none⟩) n n] 54)).drew)
    exact h0.grown hgr (fun e => by have := (hl.lt _ e).2; omega)
  have hr1 := hm R.w (by decide)
  have hB : Below a1 w ((wr.alloc (.cells (rowOf (n * 2) zslots) 61)).alloc (.cells #[.slice (some ⟨wr.heap.size, 0, none⟩) n n] 54)).drew :=
    ((R.below.alloc (by omega) _).alloc (by simp; omega) _).drew
  refine ⟨(below_grown hB hgr (fun x hx => (hl.lt x hx).1) (by simp [World.drew]; omega)).setCell (by show a1 ≤ a1 + 1; omega) _, ?_, ?_, fun i hi => ?_, ?_, by omega⟩
  · exact (hr1.set_ 0 _).congr fun j hj => by
      match j, hj with
      | 0, _ => rfl
      | 1, _ => rfl
  · rw [← listsN_succ]
    exact hw1.kept (grown_setCell w1 _ _) (.inr (own_row_ne hw1 hr1 (by decide)))
  · show Row _ (if i = k then wr.heap.size else Bk i) _ _ _ ∧ a1 ≤ (if i = k then wr.heap.size else Bk i)
    by_cases e : i = k
    · rw [if_pos e]
      exact ⟨hnew.far (fun e => by have e' : wr.heap.size = a1 + 1 := e; omega) _, by omega⟩
    · rw [if_neg e]
      obtain ⟨h1, h2⟩ := R.slots i (by omega)
      exact ⟨(hm h1 (by decide)).far (row_ne h1 R.w (by decide)) _, h2⟩
  · exact (hm R.out (by decide)).far (fun e => by have e' : a1 = a1 + 1 := e; omega) _
set_option maxHeartbeats 4000000 in
theorem rNew_any (a n : Nat) (h : sizeB a n = true) (w : World) : Calls Try.prog 8 #[.int .i64 a, .int .i64 n] w
    fun e w' => ∃ b c Bk Cp, e = .returned (.agg #[.slice (some ⟨b, 0, none⟩) a c, .int .i64 0]) ∧ RefIs (fun i => i < w.heap.size) w' b Bk Cp (ward0 a n) ∧ Below w.heap.size w w' := by
  unfold sizeB at h
  simp only [Bool.and_eq_true, decide_eq_true_eq] at h
  have h1 : 1 ≤ a ∧ a ≤ 4 ∧ 1 ≤ n ∧ n ≤ 60 := by omega
  clear h
  obtain ⟨b1, b2, b3, b4⟩ := h1
  obtain ⟨i1, hj0, hy0, hy1, hy3⟩ := info_slots
  have hmk : ∀ W : World, (Instr.makeSlice 54 (.int .i64 n) (.int .i64 n)).run Try.prog W = .ok (.slice (some ⟨W.heap.size, 0, none⟩) n n) (W.alloc (.cells (rowOf (n * 2) zslots) 61)) := fun W => by
    have hr := run_make (P := Try.prog) W 54 61 i1 _ Try.underlying54 hj0 hy0 .i64 .i64 n n (by omega) (Int.le_refl _) (by rw [hy3]; omega) (by omega)
    rw [hy1, Int.toNat_natCast] at hr
    rw [← made2 n]
    exact hr
  clear hj0 hy0 hy1 hy3
  go_enter Try.func8, Try.ntmps8
  go_upto_region 2 with fail
  generalize hW : World.alloc (World.alloc _ _) _ = W
  obtain ⟨hB, hq, hx⟩ := two_blocks w 30 30 2 2 (fun j => match j with | 0 => .slice none 0 0 | _ => .int .i64 0) (fun j => match j with | 0 => .slice none 0 0 | _ => .int .i64 0) W hW
  clear hW
  generalize hz : w.heap.size = a1 at *
  have HZ := Lib.hid hz; clear hz
  have R0 : NewR w a1 (a1 + 1) n 0 (.slice none 0 0) (fun _ => 0) W := ⟨hB, hx, ⟨rfl, .inl ⟨rfl, rfl⟩⟩, fun i hi => by omega, hq, by omega⟩
  have HR0 := Lib.hid R0
  clear hB hx hq R0
  go_wp2_with fail
  go_loopw [6] (fun i wr => ∃ (k : Nat) (v : Value) (Bk : Nat → Nat), i = .int .i64 k ∧ k ≤ a ∧ NewR w a1 (a1 + 1) n k v Bk wr) (fun i _ => a - (intOf i).toNat)
  case atStart => exact ⟨0, _, _, rfl, Nat.zero_le _, HR0.out⟩
  case round =>
    clear HR0
    obtain ⟨k, v, Bk, rfl, hk, R⟩ := hrel
    by_cases hlt : k < a
    · have x0 : wr.cell? ⟨a1 + 1, 0, none⟩ = some v := R.w.cell (i := 0) (by omega)
      have xf := R.w.frozen 0
      have hsz : a1 + 1 < wr.heap.size := R.w.lt
      have HR := Lib.hid R
      clear R
      obtain ⟨i0, hi0, hz0, hz1, hz3⟩ := info_lists
      have hfar : ∀ o, (wr.alloc o).cell? ⟨a1 + 1, 0, none⟩ = some v := fun o => (((Below.refl wr.heap.size wr).alloc (Nat.le_refl _) o).cell (p := ⟨a1 + 1, 0, none⟩) hsz).trans x0
      have p0 := hfar (.cells (rowOf (n * 2) zslots) 61)
      have p1 : ((wr.alloc (.cells (rowOf (n * 2) zslots) 61)).alloc (.cells #[.slice (some ⟨wr.heap.size, 0, none⟩) n n] 54)).cell? ⟨a1 + 1, 0, none⟩ = some v :=
        (((Below.refl _ (wr.alloc (.cells (rowOf (n * 2) zslots) 61))).alloc (Nat.le_refl _) _).cell (p := ⟨a1 + 1, 0, none⟩) (by simp; omega)).trans p0
      have hown : ((wr.alloc (.cells (rowOf (n * 2) zslots) 61)).alloc (.cells #[.slice (some ⟨wr.heap.size, 0, none⟩) n n] 54)).drew.ownsRow a1 54 1 v k (listsN Bk n k) := (HR.out.lists.alloc _).alloc _
      have hnews : ∀ (j : Nat) (u : Value), [Value.slice (some ⟨wr.heap.size, 0, none⟩) n n][j]? = some u → ((wr.alloc (.cells (rowOf (n * 2) zslots) 61)).alloc (.cells #[.slice (some ⟨wr.heap.size, 0, none⟩) n n] 54)).drew.cell? ((⟨wr.heap.size + 1, 0, none⟩ : Addr).add j) = some u := by
        have h := cell_one_new (wr.alloc (.cells (rowOf (n * 2) zslots) 61)) (.slice (some ⟨wr.heap.size, 0, none⟩) n n) 54
        rw [World.size_alloc] at h
        exact h
      have hrw : Row ((wr.alloc (.cells (rowOf (n * 2) zslots) 61)).alloc (.cells #[.slice (some ⟨wr.heap.size, 0, none⟩) n n] 54)).drew (a1 + 1) 30 2 (fun j => match j with | 0 => v | _ => .int .i64 0) := ((HR.out.w.alloc _).alloc _).drew
      have hne := own_row_ne hown hrw (by decide)
      have HO := Lib.hid (And.intro hown (And.intro hnews (And.intro hrw hne)))
      clear hown hfar hnews hrw hne
      go_upto_region 5 with fail
      go_region_law (refine step_append_lies _ rfl _ _ 28 rfl a1 54 i0 (.slice none 0 0) 1 24 Try.underlying28 hi0 hz0 hz1 hz3 rfl (by decide) v k (listsN Bk n k) rfl HO.out.1 ⟨wr.heap.size + 1, 0, none⟩ 1 1 [.slice (some ⟨wr.heap.size, 0, none⟩) n n] rfl rfl HO.out.2.1 (fun u hu => by cases hu with | head => rfl | tail _ h => cases h) (by omega) (by unfold maxLen; omega) (by omega) (by simp; omega) _ rfl ?_; intro g1 c1 w1 hw1 hgr1 hgg1 hgl1; have hr1 := HO.out.2.2.1.grown hgr1 HO.out.2.2.2; have q0 := hr1.cell (i := 0) (by omega); have q1 := hr1.frozen 0)
      all_goals
        have R2 := newR_next HR.out hw1 hgr1
        clear hw1 hgr1 hgg1 hgl1 hr1 q0 q1
        go_wp2_with fail
        go_roundw
        case rel => exact ⟨k + 1, _, _, by go_num, by omega, R2⟩
        case measure => simp [intOf]; omega
    · obtain rfl : k = a := by omega
      obtain ⟨g, c, rfl, hg1, hg2⟩ := R.lists.form b1
      have x0 : wr.cell? ⟨a1 + 1, 0, none⟩ = some (.slice (some ⟨g, 0, none⟩) k c) := R.w.cell (i := 0) (by omega)
      have x1 : wr.cell? ⟨a1 + 1, 1, none⟩ = some (.int .i64 0) := R.w.cell (i := 1) (by omega)
      have HR := Lib.hid R
      clear R hmk
      have f2 : #[Value.slice (some ⟨g, 0, none⟩) k c, .int .i64 0] = rowOf 2 (refR g c (ward0 k n)) := rfl
      have F1 := Lib.hid (refR_one g c (ward0 k n))
      go_wp2_with (refine wpList_store_row rfl 30 _ _ rfl a1 (rowOf 2 (refR g c (ward0 k n))) rfl rfl 30 (rowOf 2 (fun j => match j with | 0 => .slice none 0 0 | _ => .int .i64 0)) HR.out.out (by kernel_rfl) rfl F1.out ?_)
      have ho := only_setRow wr a1 (rowOf 2 (refR g c (ward0 k n)))
      have hga : g ≠ a1 := fun e => own_row_ne HR.out.lists HR.out.out (by decide) (by rw [e]; rfl)
      refine bodyPost_ret (results_cell_row (p := 4) (ty := 30) (by kernel_rfl) _ _ a1 30 (rowOf 2 (refR g c (ward0 k n))) (0, 0) _ rfl (Row.setRow_ HR.out.out _) Try.underlying30 rfl (by kernel_rfl)) rfl
        ⟨g, c, Bk, fun _ => n, rfl, ⟨Nat.lt_of_lt_of_le hg2 ho.size, fun h => by have h' : g < w.heap.size := h; have := HZ.out; omega, fun i hi => ?_, fun i hi => ?_, fun i j hi hj => ?_⟩, by rw [HZ.out]; exact Below.only HR.out.below ho (Nat.le_of_lt HR.out.out.lt) (fun x e => by have e' : x = a1 := e; omega)⟩
      · have hi' : i < k := hi
        rw [only_cell ho (a := ⟨g, i, none⟩) hg2 hga, HR.out.lists.cellAt i (by omega)]
        exact listsN_get Bk n k i hi'
      · obtain ⟨h1, h2⟩ := HR.out.slots i hi
        exact ⟨Nat.lt_of_lt_of_le h1.lt ho.size, fun h => by have h' : Bk i < w.heap.size := h; have := HZ.out; omega⟩
      · obtain ⟨h1, h2⟩ := HR.out.slots i hi
        have h3 := h1.only ho (row_ne h1 HR.out.out (by decide))
        have hj' : j < n := hj
        have e1 := h3.cell (i := j * 2) (by omega)
        have e2 := h3.cell (i := j * 2 + 1) (by omega)
        rw [zslots_is k n i, slotsF_even] at e1
        rw [zslots_is k n i, slotsF_odd] at e2
        exact ⟨e1, e2⟩
end Go.Proofs.Ytlldhkcimlmaoaa
