/- New, Of, Words, Clone: what they make; and what is read of a memory. -/
import Derived.Test.YtdgafadbajcllaaCells
import Derived.Laws.CopyOwn
import Derived.Deep.DeepCutAuto
import Derived.Deep.RegionHeld3
import Derived.Deep.WholeRow
namespace Go.Proofs.Ytdgafadbajcllaa
open Go.ChangeShapes Go.WideShapes Go.ChangeAt Go.RowKit

theorem infoW : (Try.prog.info? 24).map (fun i => (i.zero, i.size, i.bytes)) = some (some (.int .u64 0), 1, 8) := by kernel_rfl
theorem made_row (n : Nat) : madeCells #[.int .u64 0] n = rowOf n (us fun _ => 0) := by
  apply Array.ext_getElem?
  intro i
  by_cases hi : i < n
  · rw [rowOf_get _ hi, ← Array.getElem?_toList, toList_madeCells_one, List.getElem?_replicate, if_pos hi]
    rfl
  · rw [Array.getElem?_eq_none (by rw [size_madeCells]; omega), Array.getElem?_eq_none (by rw [rowOf_size]; omega)]
theorem copy_row (n : Nat) (f : Nat → Nat) (g : Nat → Value) : ((rowOf n (us f)).toList ++ (rowOf n g).toList.drop (rowOf n (us f)).size).toArray = rowOf n (us f) := by
  rw [rowOf_size, List.drop_eq_nil_of_le (by rw [Array.length_toList, rowOf_size]; omega), List.append_nil]
theorem rowOf_mem {n : Nat} {f : Nat → Value} (h : ∀ i, (f i).oneCell' = true) : ∀ v ∈ (rowOf n f).toList, v.oneCell' = true := by
  intro v hv
  simp only [rowOf, List.mem_map] at hv
  obtain ⟨i, _, rfl⟩ := hv
  exact h i

theorem cCopied_any (A : Option Addr) (n c : Nat) (f : Nat → Nat) (h1 : 1 ≤ n) (h2 : n ≤ 4096) (w : World) (hr : RowIs w A n (us f)) : Calls Try.prog 22 #[.slice A n c] w
    fun e w' => e = .returned (.slice (some ⟨w.heap.size, 0, none⟩) n n) ∧ Row w' w.heap.size 24 n (us f) ∧ Below w.heap.size w w' := by
  obtain ⟨b, off, rfl, hb, hx⟩ := hr h1
  have hmk := fun W : World => run_make_row' (P := Try.prog) 22 24 (.int .u64 0) 8 Try.underlying22 infoW rfl .i64 .i64 n (by omega) (by omega) W
  rw [made_row] at hmk
  have hn : (rowOf n (us f)).toList.length = n := by rw [Array.length_toList, rowOf_size]
  have hsrc : ∀ (o : Obj) (j : Nat) (v : Value), (rowOf n (us f)).toList[j]? = some v → (w.alloc o).cell? ((⟨b, off, none⟩ : Addr).add j) = some v := by
    intro o j v hv
    have hj : j < n := by
      rcases Nat.lt_or_ge j n with hj | hj
      · exact hj
      · rw [List.getElem?_eq_none (by rw [hn]; exact hj)] at hv; cases hv
    rw [Array.getElem?_toList, rowOf_get _ hj] at hv
    rw [add_row, ((Below.refl w.heap.size w).alloc (Nat.le_refl _) o).cell hb, hx j hj, hv]
  have HX := Lib.hid (And.intro hn hsrc); clear hn hsrc hx
  go_enter Try.func22, Try.ntmps22
  go_wp2_with (with_reducible refine wpList_copy_own rfl _ _ _ _ rfl 24 Try.underlying22 (by kernel_rfl) w.heap.size 0 n n ⟨b, off, none⟩ n c rfl rfl (rowOf n (us fun _ => 0)) 24 (heap_alloc_new w _) (rowOf n (us f)).toList (by rw [HX.out.1]; exact (Nat.min_self n).symm) (fun j v hv => HX.out.2 _ j v hv) (by rw [HX.out.1, rowOf_size]; omega) (rowOf_mem fun _ => rfl) ?_)
  go_ret
  refine ⟨rfl, ?_, ?_⟩
  · rw [copy_row]
    exact Row.setRow_ (f := us fun _ => 0) (heap_alloc_new w _) _
  · exact below_setRow_ ((Below.refl _ _).alloc (Nat.le_refl _) _) (Nat.le_refl _) _

theorem made_mem (n : Nat) (f : Nat → Nat) (v : Value) : #[v, .int .i64 0, .int .i64 0, .int .i64 0, .bool false, .bool false] = rowOf 6 (memV v (mem0 n f)) := rfl
/-- A memory that a call has made. -/
def NewMem (w w' : World) (e : Ending) (s : Mem) : Prop := ∃ g h, e = .returned (.pointer (some ⟨g, 0, none⟩)) ∧ MemIs w' g h s ∧ Below w.heap.size w w' ∧ w.heap.size ≤ g ∧ w.heap.size ≤ h
theorem newMem_box {w W : World} {n : Nat} {f : Nat → Nat} (hr : Row W w.heap.size 24 n (us f)) (hb : Below w.heap.size w W) :
    NewMem w (W.alloc (.cells #[.slice (some ⟨w.heap.size, 0, none⟩) n n, .int .i64 0, .int .i64 0, .int .i64 0, .bool false, .bool false] 53)) (.returned (.pointer (some ⟨W.heap.size, 0, none⟩))) (mem0 n f) := by
  refine ⟨W.heap.size, w.heap.size, rfl, ⟨?_, hr.alloc _, ?_⟩, hb.alloc hb.size _, hb.size, Nat.le_refl _⟩
  · rw [made_mem n f]; exact Row.new W _ _ _ 6 rfl
  · have := hr.lt; omega

theorem cOf_no (A : Option Addr) (n c : Nat) (hn : n ≤ 9223372036854775807) (ho : n < 1 ∨ 4096 < n) (w : World) : Calls Try.prog 6 #[.slice A n c] w fun e w' => e = .returned (.pointer none) ∧ w = w' := by
  have e1 : fitsB n = false := by unfold fitsB; simp; omega
  have cF := fun W => cFits_any n W
  rw [e1] at cF
  have CF := Lib.hid cF; clear cF
  go_enter Try.func6, Try.ntmps6
  go_wp2_with (go_at_call 21; refine (CF.out _).mono ?_; rintro e w' ⟨rfl, rfl⟩)
  go_ret
  exact ⟨rfl, rfl⟩
theorem cOf_yes (A : Option Addr) (n c : Nat) (f : Nat → Nat) (h1 : 1 ≤ n) (h2 : n ≤ 4096) (w : World) (hr : RowIs w A n (us f)) : Calls Try.prog 6 #[.slice A n c] w fun e w' => NewMem w w' e (mem0 n f) := by
  have e1 : fitsB n = true := by unfold fitsB; simp; omega
  have cF := fun W => cFits_any n W
  rw [e1] at cF
  have CF := Lib.hid cF; clear cF
  have cC := cCopied_any A n c f h1 h2 w hr
  have CC := Lib.hid cC; clear cC
  clear hr
  go_enter Try.func6, Try.ntmps6
  go_wp2_with (first | (go_at_call 21; refine (CF.out _).mono ?_; rintro e w' ⟨rfl, rfl⟩) | (go_at_call 22; refine CC.out.mono ?_; rintro e w1 ⟨rfl, hr1, hb1⟩))
  go_ret
  exact newMem_box hr1 hb1
theorem cNew_no (n : Int) (hn : -9223372036854775808 ≤ n ∧ n ≤ 9223372036854775807) (ho : n < 1 ∨ 4096 < n) (w : World) : Calls Try.prog 17 #[.int .i64 n] w fun e w' => e = .returned (.pointer none) ∧ w = w' := by
  have e1 : fitsB n = false := by unfold fitsB; simp; omega
  have cF := fun W => cFits_any n W
  rw [e1] at cF
  have CF := Lib.hid cF; clear cF
  go_enter Try.func17, Try.ntmps17
  go_wp2_with (go_at_call 21; refine (CF.out _).mono ?_; rintro e w' ⟨rfl, rfl⟩)
  go_ret
  exact ⟨rfl, rfl⟩
theorem cNew_yes (n : Nat) (h1 : 1 ≤ n) (h2 : n ≤ 4096) (w : World) : Calls Try.prog 17 #[.int .i64 n] w fun e w' => NewMem w w' e (mem0 n fun _ => 0) := by
  have e1 : fitsB n = true := by unfold fitsB; simp; omega
  have cF := fun W => cFits_any n W
  rw [e1] at cF
  have CF := Lib.hid cF; clear cF
  have hmk := fun W : World => run_make_row' (P := Try.prog) 22 24 (.int .u64 0) 8 Try.underlying22 infoW rfl .i64 .i64 n (by omega) (by omega) W
  rw [made_row] at hmk
  go_enter Try.func17, Try.ntmps17
  go_wp2_with (go_at_call 21; refine (CF.out _).mono ?_; rintro e w' ⟨rfl, rfl⟩)
  go_ret
  have h := newMem_box (n := n) (f := fun _ => 0) (heap_alloc_new w (.cells (rowOf n (us fun _ => 0)) 24)) ((Below.refl _ _).alloc (Nat.le_refl _) _)
  rw [World.size_alloc] at h
  exact h

theorem cAccesses_nil (w : World) : Calls Try.prog 13 #[.pointer none] w fun e w' => e = .returned (.int .i64 0) ∧ w = w' := by
  go_enter Try.func13, Try.ntmps13
  go_wp2_with fail
  go_ret
  exact ⟨rfl, rfl⟩
theorem cWrites_nil (w : World) : Calls Try.prog 14 #[.pointer none] w fun e w' => e = .returned (.int .i64 0) ∧ w = w' := by
  go_enter Try.func14, Try.ntmps14
  go_wp2_with fail
  go_ret
  exact ⟨rfl, rfl⟩
theorem cLast_nil (w : World) : Calls Try.prog 12 #[.pointer none] w fun e w' => e = .returned (.tuple #[.int .i64 0, .bool false]) ∧ w = w' := by
  go_enter Try.func12, Try.ntmps12
  go_wp2_with fail
  go_ret2
  exact ⟨rfl, rfl⟩
theorem cFault_nil (w : World) : Calls Try.prog 15 #[.pointer none] w fun e w' => e = .returned (.bool false) ∧ w = w' := by
  go_enter Try.func15, Try.ntmps15
  go_wp2_with fail
  go_ret
  exact ⟨rfl, rfl⟩
theorem cWords_nil (w : World) : Calls Try.prog 16 #[.pointer none] w fun e w' => e = .returned (.slice none 0 0) ∧ w = w' := by
  go_enter Try.func16, Try.ntmps16
  go_wp2_with fail
  go_ret
  exact ⟨rfl, rfl⟩
theorem cClone_nil (w : World) : Calls Try.prog 11 #[.pointer none] w fun e w' => e = .returned (.pointer none) ∧ w = w' := by
  go_enter Try.func11, Try.ntmps11
  go_wp2_with fail
  go_ret
  exact ⟨rfl, rfl⟩

theorem clone_row (s : Mem) (v : Value) (i : Nat) (hi : i < 6) (u : Value) : (if i = 0 then v else memV u s i) = memV v s i := by
  match i, hi with
  | 0, _ => rfl
  | 1, _ => rfl
  | 2, _ => rfl
  | 3, _ => rfl
  | 4, _ => rfl
  | 5, _ => rfl
section
variable (s : Mem) (g h : Nat) (w : World) (hm : MemIs w g h s)
include hm
theorem cAccesses_any : Calls Try.prog 13 #[.pointer (some ⟨g, 0, none⟩)] w fun e w' => e = .returned (.int .i64 s.acc) ∧ w = w' := by
  have u := hm.cells.2.1
  clear hm
  go_enter Try.func13, Try.ntmps13
  go_wp2_with fail
  go_ret
  exact ⟨rfl, rfl⟩
theorem cWrites_any : Calls Try.prog 14 #[.pointer (some ⟨g, 0, none⟩)] w fun e w' => e = .returned (.int .i64 s.wr) ∧ w = w' := by
  have u := hm.cells.2.2.1
  clear hm
  go_enter Try.func14, Try.ntmps14
  go_wp2_with fail
  go_ret
  exact ⟨rfl, rfl⟩
theorem cFault_any : Calls Try.prog 15 #[.pointer (some ⟨g, 0, none⟩)] w fun e w' => e = .returned (.bool s.fault) ∧ w = w' := by
  have u := hm.cells.2.2.2.2.2
  clear hm
  go_enter Try.func15, Try.ntmps15
  go_wp2_with fail
  go_ret
  exact ⟨rfl, rfl⟩
theorem cLast_any : Calls Try.prog 12 #[.pointer (some ⟨g, 0, none⟩)] w fun e w' => e = .returned (.tuple #[.int .i64 s.la, .bool s.named]) ∧ Drew w w' := by
  have u := hm.cells.2.2.2.1
  have v := hm.cells.2.2.2.2.1
  clear hm
  go_enter Try.func12, Try.ntmps12
  go_upto_region 3 with fail
  go_region
  go_wp2_with fail
  go_ret2
  exact ⟨rfl, (Drew.refl w).more 1⟩
/-- The words again, in memory of their own. -/
theorem cWords_any (h1 : 1 ≤ s.n) (h2 : s.n ≤ 4096) : Calls Try.prog 16 #[.pointer (some ⟨g, 0, none⟩)] w
    fun e w' => ∃ A c, e = .returned (.slice A s.n c) ∧ RowIs w' A s.n (us s.f) ∧ Below w.heap.size w w' := by
  have u := hm.cells.1
  have hr : RowIs w (some ⟨h, 0, none⟩) s.n (us s.f) := fun _ => ⟨h, 0, rfl, hm.words.lt, fun i hi => by rw [Nat.zero_add]; exact hm.words.cell hi⟩
  have cC := cCopied_any (some ⟨h, 0, none⟩) s.n s.n s.f h1 h2 w hr
  have CC := Lib.hid cC; clear cC
  clear hr hm
  go_enter Try.func16, Try.ntmps16
  go_wp2_with (go_at_call 22; refine CC.out.mono ?_; rintro e w1 ⟨rfl, hr1, hb1⟩)
  go_ret
  exact ⟨_, _, rfl, fun _ => ⟨w.heap.size, 0, rfl, hr1.lt, fun i hi => by rw [Nat.zero_add]; exact hr1.cell hi⟩, hb1⟩
set_option maxHeartbeats 1000000 in
theorem cClone_any (h1 : 1 ≤ s.n) (h2 : s.n ≤ 4096) : Calls Try.prog 11 #[.pointer (some ⟨g, 0, none⟩)] w fun e w' => NewMem w w' e s := by
  obtain ⟨u0, u1, u2, u3, u4, u5⟩ := hm.cells
  have HM := Lib.hid hm; clear hm
  go_enter Try.func11, Try.ntmps11
  go_upto_region 4 with fail
  generalize hW : World.alloc _ _ = W
  have hr : Row W w.heap.size 53 6 (memV (.slice (some ⟨h, 0, none⟩) s.n s.n) s) := by rw [← hW]; exact Row.new _ _ _ _ _ rfl
  have hB : Below w.heap.size w W := by rw [← hW]; exact (Below.refl _ _).alloc (Nat.le_refl _) _
  clear hW u0 u1 u2 u3 u4 u5
  have hm := HM.out.keep hB
  have u0 := hm.cells.1
  have cC := cCopied_any (some ⟨h, 0, none⟩) s.n s.n s.f h1 h2 W (fun _ => ⟨h, 0, rfl, hm.words.lt, fun i hi => by rw [Nat.zero_add]; exact hm.words.cell hi⟩)
  have CC := Lib.hid cC; clear cC hm
  generalize hz : w.heap.size = a1 at *
  have HZ := Lib.hid hz; clear hz
  have hlt := hr.lt
  have HR := Lib.hid hr; have HB := Lib.hid hB; clear hr hB
  have HK : Hid (∀ w1, Below W.heap.size W w1 → w1.cell? ⟨a1, 0, none⟩ = some (.slice (some ⟨h, 0, none⟩) s.n s.n) ∧ w1.frozen? ⟨a1, 0, none⟩ = false) := Lib.hid fun w1 hb => ⟨(HR.out.keep hb).cell (i := 0) (by omega), (HR.out.keep hb).frozen 0⟩
  go_wp2_with (go_at_call 22; refine CC.out.mono ?_; rintro e w1 ⟨rfl, hr1, hb1⟩; obtain ⟨x0, x1⟩ := HK.out _ hb1)
  go_ret
  refine ⟨a1, W.heap.size, rfl, ⟨?_, hr1.far (by show W.heap.size ≠ a1; omega) _, by omega⟩, ?_, by rw [HZ.out]; exact Nat.le_refl _, by rw [HZ.out]; omega⟩
  · exact ((HR.out.keep hb1).set_ 0 _).congr fun i hi => clone_row s _ i hi _
  · rw [HZ.out]
    exact (HB.out.trans (hb1.mono (Nat.le_of_lt hlt))).setCell (Nat.le_refl _) _
end
end Go.Proofs.Ytdgafadbajcllaa
