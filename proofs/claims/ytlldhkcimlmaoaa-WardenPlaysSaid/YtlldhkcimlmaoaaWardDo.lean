/- Take, Drop: what they answer and what they make of a warden. -/
import Derived.Test.YtlldhkcimlmaoaaWard
import Derived.IntWalk
namespace Go.Proofs.Ytlldhkcimlmaoaa
open Go.ChangeShapes Go.WideShapes Go.ChangeAt Go.RowKit Go.Maps

def slipW (s : Ward) : Ward := ⟨s.levels, s.slots, s.held, s.gen, s.slips + 1⟩
def putW (s : Ward) (a b : Int) : Ward := ⟨s.levels, s.slots, fun x y => decide (x = a ∧ y = b) || s.held x y, s.gen, s.slips⟩
def delW (s : Ward) (a b : Int) : Ward := ⟨s.levels, s.slots, fun x y => !decide (x = a ∧ y = b) && s.held x y, fun l j => bif decide ((l : Int) = a ∧ (j : Int) = b) then s.gen l j + 1 else s.gen l j, s.slips⟩
def takeB (s : Ward) (a b : Int) : Bool := hasB s a b && !s.held a b
def takeW (s : Ward) (a b : Int) : Ward := bif takeB s a b then putW s a b else slipW s
def dropW (s : Ward) (a b : Int) : Ward := bif s.held a b then delW s a b else slipW s

theorem okW_slip {s : Ward} {N : Nat} (h : OkW s N) : OkW (slipW s) (N + 1) := ⟨h.l1, h.l4, h.s1, h.s60, h.in_, fun l i => Nat.le_succ_of_le (h.gens l i), Nat.succ_le_succ h.slip⟩
theorem okW_take {s : Ward} {N : Nat} (h : OkW s N) (a b : Int) : OkW (takeW s a b) (N + 1) := by
  unfold takeW
  cases ht : takeB s a b
  · exact okW_slip h
  · refine ⟨h.l1, h.l4, h.s1, h.s60, fun x y hx => ?_, fun l i => Nat.le_succ_of_le (h.gens l i), Nat.le_succ_of_le h.slip⟩
    have hx' : (decide (x = a ∧ y = b) || s.held x y) = true := hx
    simp only [Bool.or_eq_true, decide_eq_true_eq] at hx'
    rcases hx' with ⟨rfl, rfl⟩ | h'
    · unfold takeB at ht
      simp only [Bool.and_eq_true] at ht
      exact ht.1
    · exact h.in_ x y h'
theorem okW_drop {s : Ward} {N : Nat} (h : OkW s N) (a b : Int) : OkW (dropW s a b) (N + 1) := by
  unfold dropW
  cases ht : s.held a b
  · exact okW_slip h
  · refine ⟨h.l1, h.l4, h.s1, h.s60, fun x y hx => ?_, fun l i => ?_, Nat.le_succ_of_le h.slip⟩
    · have hx' : (!decide (x = a ∧ y = b) && s.held x y) = true := hx
      simp only [Bool.and_eq_true] at hx'
      exact h.in_ x y hx'.2
    · show (bif decide ((l : Int) = a ∧ (i : Int) = b) then s.gen l i + 1 else s.gen l i) ≤ N + 1
      have := h.gens l i
      cases decide ((l : Int) = a ∧ (i : Int) = b)
      · exact Nat.le_succ_of_le this
      · exact Nat.succ_le_succ this
theorem del_row (m : Nat) (s : Ward) (l j : Nat) (hl : l < 4) (hj : j < 61) (i : Nat) (hi : i < 248) : (if i = 3 + l * 61 + j then Value.int .i64 ((s.gen l j : Nat) + 1) else wardV m s i) = wardV m (delW s l j) i := by
  by_cases e : i = 3 + l * 61 + j
  · subst e
    rw [if_pos rfl, wardV_gen m _ hl hj]
    show _ = Value.int .i64 ((bif decide ((l : Int) = l ∧ (j : Int) = j) then s.gen l j + 1 else s.gen l j : Nat))
    rw [decide_eq_true ⟨rfl, rfl⟩]
    rfl
  · rw [if_neg e]
    match i, hi, e with
    | 0, _, _ => rfl
    | 1, _, _ => rfl
    | 2, _, _ => rfl
    | k + 3, hi, e =>
      show (bif decide (k < 244) then Value.int .i64 (s.gen (k / 61) (k % 61)) else .int .i64 s.slips) = (bif decide (k < 244) then Value.int .i64 ((bif decide (((k / 61 : Nat) : Int) = l ∧ ((k % 61 : Nat) : Int) = j) then s.gen (k / 61) (k % 61) + 1 else s.gen (k / 61) (k % 61) : Nat)) else .int .i64 s.slips)
      rw [decide_eq_false (by omega : ¬ (((k / 61 : Nat) : Int) = l ∧ ((k % 61 : Nat) : Int) = j))]
      rfl

theorem wTake_nil (a b : Int) (w : World) : Calls Try.prog 13 #[.pointer none, .int .i64 a, .int .i64 b] w fun e w' => e = .returned (.bool false) ∧ w = w' := by
  have c1 := Lib.hid (fun W => wHas_nil a b W)
  have c2 := Lib.hid (fun W => wSlip_nil W)
  go_enter Try.func13, Try.ntmps13
  go_wp2_with (first | (go_at_call 27; refine (c1.out _).mono ?_; rintro e w' ⟨rfl, rfl⟩) | (go_at_call 29; refine (c2.out _).mono ?_; rintro e w' ⟨rfl, rfl⟩))
  go_ret
  exact ⟨rfl, rfl⟩
theorem wDrop_nil (a b : Int) (w : World) : Calls Try.prog 14 #[.pointer none, .int .i64 a, .int .i64 b] w fun e w' => e = .returned (.bool false) ∧ w = w' := by
  have c1 := Lib.hid (fun W => wHolds_nil a b W)
  have c2 := Lib.hid (fun W => wSlip_nil W)
  go_enter Try.func14, Try.ntmps14
  go_wp2_with (first | (go_at_call 28; refine (c1.out _).mono ?_; rintro e w' ⟨rfl, rfl⟩) | (go_at_call 29; refine (c2.out _).mono ?_; rintro e w' ⟨rfl, rfl⟩))
  go_ret
  exact ⟨rfl, rfl⟩

/-- What a call that changes a warden leaves. -/
def DoneW (w : World) (g m N : Nat) (s : Ward) (b : Bool) (e : Ending) (w' : World) : Prop := e = .returned (.bool b) ∧ WardIs w' g m N s ∧ Only (Two g m) w w'
section
variable (s : Ward) (N : Nat) (hs : OkW s N) (hN : N < 1000000) (g m : Nat) (w : World) (hw : WardIs w g m N s) (a b : Int) (ha : inI a) (hb : inI b)
include hs hN hw ha hb
theorem wTake_any : Calls Try.prog 13 #[.pointer (some ⟨g, 0, none⟩), .int .i64 a, .int .i64 b] w (DoneW w g m (N + 1) (takeW s a b) (takeB s a b)) := by
  have c1 := wHas_any s N hs g m w hw a b
  have c2 := wHolds_any s N hs g m w hw a b ha hb
  have c3 := fun W hW => wSlip_any s N hs g m W hW hN
  have C2 := Lib.hid c2; have C3 := Lib.hid c3
  clear c2 c3
  cases h1 : hasB s a b
  · have e1 : takeB s a b = false := by unfold takeB; rw [h1]; rfl
    have e2 : takeW s a b = slipW s := by unfold takeW; rw [e1]; rfl
    rw [h1] at c1
    rw [e1, e2]
    have C1 := Lib.hid c1
    have HW := Lib.hid hw
    clear c1 e1 e2 h1 hs hw
    go_enter Try.func13, Try.ntmps13
    go_wp2_with (first | (go_at_call 27; refine C1.out.mono ?_; rintro e w' ⟨rfl, rfl⟩) | (go_at_call 29; refine (C3.out _ HW.out).mono ?_; rintro e w1 ⟨rfl, hw1, ho1⟩))
    go_ret
    exact ⟨rfl, ⟨hw1.row, hw1.set.mono (Nat.le_succ _)⟩, ho1⟩
  · rw [h1] at c1
    have C1 := Lib.hid c1
    have HW := Lib.hid hw
    cases h2 : s.held a b
    · have e1 : takeB s a b = true := by unfold takeB; rw [h1, h2]; rfl
      have e2 : takeW s a b = putW s a b := by unfold takeW; rw [e1]; rfl
      rw [e1, e2]
      rw [h2] at C2
      have hkey := Lib.hid (keyOf_place a b ha hb)
      clear c1 e1 e2 h1 hs hw h2
      go_enter Try.func13, Try.ntmps13
      go_upto_region 3 with (first | (go_at_call 27; refine C1.out.mono ?_; rintro e w' ⟨rfl, rfl⟩) | (go_at_call 28; refine C2.out.mono ?_; rintro e w1 ⟨rfl, hb1⟩))
      have hw1 := HW.out.keep hb1
      obtain ⟨u0, u1, u2, u3⟩ := hw1.cells
      obtain ⟨D, hown, hD⟩ := hw1.set
      have HO := Lib.hid hown; have HD := Lib.hid hD; have H1 := Lib.hid hw1; have HB := Lib.hid hb1
      clear hown hD hw1 hb1 C1 C2 C3 HW
      go_wp2_with (at_mapUpdate; refine wpList_mapUpdate_in _ rfl _ _ _ 49 rfl 64 65 placeLaw Try.underlying49 unitElem m N D rfl HO.out (by unfold maxLen; omega) _ _ _ rfl rfl hkey.out _ [] unitElem_mk ?_; intro w2 hown2 hturn2)
      go_ret
      have hne := H1.out.ne
      refine ⟨rfl, ⟨H1.out.row.only (only_turned hturn2 (F := fun i => i = m) rfl) (fun e => hne e), D.put (kL a b) _, hown2, fun x y hx hy => ?_⟩, (only_below HB.out _).trans (only_turned hturn2 (.inr rfl))⟩
      rw [has_put D HO.out.isMap a b x y ha hb hx hy, HD.out x y hx hy]
      rfl
    · have e1 : takeB s a b = false := by unfold takeB; rw [h1, h2]; rfl
      have e2 : takeW s a b = slipW s := by unfold takeW; rw [e1]; rfl
      rw [e1, e2]
      rw [h2] at C2
      clear c1 e1 e2 h1 hs hw h2
      go_enter Try.func13, Try.ntmps13
      go_wp2_with (first | (go_at_call 27; refine C1.out.mono ?_; rintro e w' ⟨rfl, rfl⟩) | (go_at_call 28; refine C2.out.mono ?_; rintro e w1 ⟨rfl, hb1⟩) | (go_at_call 29; refine (C3.out _ (HW.out.keep hb1)).mono ?_; rintro e w2 ⟨rfl, hw2, ho2⟩))
      go_ret
      exact ⟨rfl, ⟨hw2.row, hw2.set.mono (Nat.le_succ _)⟩, (only_below hb1 _).trans ho2⟩

set_option maxHeartbeats 1000000 in
theorem wDrop_any : Calls Try.prog 14 #[.pointer (some ⟨g, 0, none⟩), .int .i64 a, .int .i64 b] w (DoneW w g m (N + 1) (dropW s a b) (s.held a b)) := by
  have c2 := wHolds_any s N hs g m w hw a b ha hb
  have c3 := fun W hW => wSlip_any s N hs g m W hW hN
  have C2 := Lib.hid c2; have C3 := Lib.hid c3
  clear c2 c3
  have HW := Lib.hid hw
  cases h2 : s.held a b
  · have e2 : dropW s a b = slipW s := by unfold dropW; rw [h2]; rfl
    rw [e2]
    rw [h2] at C2
    clear e2 hs hw h2
    go_enter Try.func14, Try.ntmps14
    go_wp2_with (first | (go_at_call 28; refine C2.out.mono ?_; rintro e w1 ⟨rfl, hb1⟩) | (go_at_call 29; refine (C3.out _ (HW.out.keep hb1)).mono ?_; rintro e w2 ⟨rfl, hw2, ho2⟩))
    go_ret
    exact ⟨rfl, ⟨hw2.row, hw2.set.mono (Nat.le_succ _)⟩, (only_below hb1 _).trans ho2⟩
  · have e2 : dropW s a b = delW s a b := by unfold dropW; rw [h2]; rfl
    rw [e2]
    rw [h2] at C2
    have hin := hasB_iff.1 (hs.in_ a b h2)
    have b1 := hs.l4
    have b3 := hs.s60
    have hgen := hs.gens
    obtain ⟨l, rfl⟩ : ∃ l : Nat, a = l := ⟨a.toNat, by omega⟩
    obtain ⟨j, rfl⟩ : ∃ j : Nat, b = j := ⟨b.toNat, by omega⟩
    have hl : l < 4 := by omega
    have hj : j < 61 := by omega
    have hg1 := hgen l j
    have hkey := Lib.hid (keyOf_place l j ha hb)
    clear e2 hs hw h2 hin hgen C3
    go_enter Try.func14, Try.ntmps14
    go_upto_region 3 with (go_at_call 28; refine C2.out.mono ?_; rintro e w1 ⟨rfl, hb1⟩)
    have hw1 := HW.out.keep hb1
    obtain ⟨u0, u1, u2, u3⟩ := hw1.cells
    obtain ⟨D, hown, hD⟩ := hw1.set
    have HO := Lib.hid hown; have HD := Lib.hid hD; have H1 := Lib.hid hw1; have HB := Lib.hid hb1
    clear hown hD hw1 hb1 C2 HW
    go_upto_region 4 with (at_delete; refine wpList_delete_own _ rfl _ _ 49 64 rfl 65 placeLaw Try.underlying49 unitElem m N D rfl HO.out _ _ rfl hkey.out ?_; intro w2 hown2 hturn2)
    have hne := H1.out.ne
    have hr2 := H1.out.row.only (only_turned hturn2 (F := fun i => i = m) rfl) (fun e => hne e)
    have hG : w2.cell? ⟨g, 3 + l * 61 + j, none⟩ = some (.int .i64 (s.gen l j)) := by rw [← wardV_gen m s hl hj]; exact hr2.cell (by omega)
    have vG := hr2.frozen (3 + l * 61 + j)
    have HR := Lib.hid hr2; have HM := Lib.hid hown2; have HT := Lib.hid hturn2
    clear hr2 hown2 hturn2 u0 u1 u2 u3
    have hl' : ((l : Nat) : Int) < 4 := by omega
    have hj' : ((j : Nat) : Int) < 61 := by omega
    go_region
    go_wp2_with fail
    rw [show IntKind.i64.wrap ((s.gen l j : Nat) + 1) = ((s.gen l j : Nat) : Int) + 1 from IntWalk.i64_in _ (by omega)]
    go_ret
    refine ⟨rfl, ⟨?_, ?_⟩, ?_⟩
    · exact (((HR.out.set_ (3 + l * 61 + j) _).congr fun i hi => del_row m s l j hl hj i hi)).drew
    · refine SetIs.mono (n := N) ?_ (Nat.le_succ _)
      refine SetIs.keep (w := w2.setCell ⟨g, 3 + l * 61 + j, none⟩ (.int .i64 ((s.gen l j : Nat) + 1))) ?_ (Below.refl _ _).drew
      refine SetIs.setCell ⟨_, HM.out, fun x y hx hy => ?_⟩ (fun e => hne e.symm) _
      rw [has_del D l j x y ha hb hx hy, HD.out x y hx hy]
      rfl
    · exact (((only_below HB.out _).trans (only_turned HT.out (.inr rfl))).setCell (.inl rfl) _).drew
end
end Go.Proofs.Ytlldhkcimlmaoaa
