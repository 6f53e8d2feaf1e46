/- share.Of, share.UpTo. -/
import Derived.Test.YtodomchanaaonaaShareThose
import Derived.Test.YtodomchanaaonaaConfCalls
import Derived.Shelf.Abstract
namespace Go.Proofs.Ytodomchanaaonaa
open Go.ChangeShapes Go.WideShapes Go.ChangeAt Go.RowKit

theorem keepUp_congr {p q : Opr → Bool} {L : List Opr} : ∀ n, n ≤ L.length → (∀ i, i < L.length → p (oprN L i) = q (oprN L i)) → keepUp p L n = keepUp q L n
  | 0, _, _ => rfl
  | n + 1, hn, h => by unfold keepUp; rw [h n (by omega), keepUp_congr n (by omega) h]
theorem keepUp_none {p : Opr → Bool} {L : List Opr} (h : ∀ o, p o = false) : ∀ n, keepUp p L n = []
  | 0 => rfl
  | n + 1 => by unfold keepUp; rw [h, keepUp_none h n]; rfl
theorem shareB_num {lv pt : Int} (h : numB lv pt = true) (o : Opr) : (whichB o && (whichN o == numN lv pt)) = shareB lv pt o := by
  have hw := which_bounds o
  have hn : numN lv pt = 4 * lv + pt := by unfold numN; rw [h]; rfl
  unfold numB belowV at h
  simp only [Bool.and_eq_true, decide_eq_true_eq] at h
  unfold shareB
  rw [hn]
  congr 1
  rw [Bool.eq_iff_iff]
  simp only [beq_iff_eq, Bool.and_eq_true, decide_eq_true_eq]
  omega
theorem shareB_none {lv pt : Int} (h : numB lv pt = false) (o : Opr) : shareB lv pt o = false := by
  have hw := which_bounds o
  unfold shareB
  cases hd : decide (whichN o / 4 = lv) <;> cases he : decide (whichN o % 4 = pt)
  · rw [Bool.and_false, Bool.and_false]
  · rw [Bool.false_and, Bool.and_false]
  · rw [Bool.and_false, Bool.and_false]
  · exfalso
    have h1 := of_decide_eq_true hd
    have h2 := of_decide_eq_true he
    have : numB lv pt = true := by
      unfold numB belowV
      simp only [Bool.and_eq_true, decide_eq_true_eq]
      omega
    rw [this] at h
    cases h
theorem sOfFn_any (A : Option Addr) (c : Nat) (L : List Opr) (hL : L.length ≤ 1000000) (lv pt : Int) (w : World) (ha : LiesC w A (flatF opF L)) :
    Calls Try.prog 10 #[.slice A L.length c, .int .i64 lv, .int .i64 pt] w fun e w' => ∃ v, e = .returned v ∧ LnIs w' v (keepUp (shareB lv pt) L L.length).length (flatF opF (keepUp (shareB lv pt) L L.length)) ∧ Far w.heap.size v ∧ Below w.heap.size w w' := by
  have C1 := Lib.hid (fun W => sNumber_any lv pt W)
  cases hb : numB lv pt
  · rw [hb] at C1
    have hk := keepUp_none (L := L) (shareB_none hb) L.length
    rw [hk]
    clear ha hk hb hL
    generalize L.length = n at *
    go_enter Try.func10, Try.ntmps10
    go_wp2_with (go_at_call 15; refine (C1.out _).mono ?_; rintro e w1 ⟨rfl, rfl⟩)
    go_ret
    refine ⟨_, rfl, ?_, ?_, (Below.refl _ _).alloc (Nat.le_refl _) _⟩
    · exact lnIs_of_own (World.ownsRow_nil _ 0 35 16)
    · exact far_of_own (World.ownsRow_nil w _ 35 16)
  · have hk := keepUp_congr (p := fun o => whichB o && (whichN o == numN lv pt)) (q := shareB lv pt) (L := L) L.length (Nat.le_refl _) fun i _ => shareB_num hb (oprN L i)
    rw [hb] at C1
    rw [← hk]
    generalize numN lv pt = s at *
    have HB : Hid (Below w.heap.size w (w.alloc (.cells #[.int .i64 s] 3))) := Lib.hid ((Below.refl _ _).alloc (Nat.le_refl _) _)
    have hcell : (w.alloc (.cells #[.int .i64 s] 3)).cell? ⟨w.heap.size, 0, none⟩ = some (.int .i64 s) := cell_of_row _ _ _ _ _ _ (heap_alloc_new w _)
    have hsz : (w.alloc (.cells #[.int .i64 s] 3)).heap.size = w.heap.size + 1 := by simp
    have C2 := Lib.hid (those_any 19 #[.pointer (some ⟨w.heap.size, 0, none⟩)] (enters_of Try.func19 (by kernel_rfl) rfl) (fun o => whichB o && (whichN o == s)) A c L hL (w.alloc (.cells #[.int .i64 s] 3))
      (fun i W _ hbW => ofTest_any (oprN L i) w.heap.size s W ((hbW.cell (p := ⟨w.heap.size, 0, none⟩) (by rw [hsz]; exact Nat.lt_succ_self _)).trans hcell) (by have := hbW.size; omega)) (ha.alloc _))
    generalize keepUp (fun o => whichB o && (whichN o == s)) L L.length = X at *
    clear ha hk hb hL hcell hsz
    generalize L.length = n at *
    go_enter Try.func10, Try.ntmps10
    go_wp2_with (first | (go_at_call 15; refine (C1.out _).mono ?_; rintro e w1 ⟨rfl, rfl⟩) | (go_at_call 18; refine C2.out.mono ?_; rintro e w1 ⟨v, rfl, h1, h2, h3⟩))
    go_ret
    exact ⟨_, rfl, h1, h2.mono HB.out.size, HB.out.trans (h3.mono HB.out.size)⟩
end Go.Proofs.Ytodomchanaaonaa
