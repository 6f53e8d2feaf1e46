/- What the laws of layer 7 call: same, do. -/
import Derived.Test.YtlldhkcimlmaoaaRef7New
import Derived.Test.YtlldhkcimlmaoaaWardFacts
namespace Go.Proofs.Ytlldhkcimlmaoaa
set_option linter.unusedSimpArgs false
open Go.ChangeShapes Go.WideShapes Go.ChangeAt Go.RowKit Go.Maps

section
variable (F : Nat → Prop) (b c : Nat) (Bk Cp : Nat → Nat) (s : Ward) (N : Nat) (hs : OkW s N) (hN : N < 1000000) (g m : Nat) (w : World) (hr : RefIs F w b Bk Cp s) (hw : WardIs w g m N s)
include hs hN hr hw
set_option maxHeartbeats 8000000 in
theorem lSame_any (l j : Int) (hl : inI l) (hj : inI j) (x : Nat) (hx : x < 18446744073709551616) : Calls Try.prog 10 #[.pointer (some ⟨g, 0, none⟩), .agg #[.slice (some ⟨b, 0, none⟩) s.levels c, .int .i64 s.slips], .int .i64 l, .int .i64 j, .int .u64 x] w fun e w' => e = .returned (.bool true) ∧ Below w.heap.size w w' := by
  have C1 := Lib.hid fun W (hW : WardIs W g m N s) => wHeld_any s N hs g m W hW l hl
  have C2 := Lib.hid fun W (hR : RefIs F W b Bk Cp s) => rHeld_any F b c Bk Cp s N hs W hR l hl
  have C3 := Lib.hid fun W (hW : WardIs W g m N s) => wSlips_any s N g m W hW
  have C4 := Lib.hid fun W (hW : WardIs W g m N s) => wLink_any s N hs g m W hW hN l j hl hj
  have C5 := Lib.hid fun W (hR : RefIs F W b Bk Cp s) => rLink_any F b c Bk Cp s N hs W hR hN l j hl hj
  have C6 := Lib.hid fun W (hW : WardIs W g m N s) => wLeads_any s N hs g m W hW hN l hl x hx
  have C7 := Lib.hid fun W (hR : RefIs F W b Bk Cp s) => rLeads_any F b c Bk Cp s N hs W hR hN l hl x hx
  generalize heldN s l = n1 at *
  generalize linkV s l j = n2 at *
  generalize leadsB s l x = n3 at *
  clear hs
  go_enter Try.func10, Try.ntmps10
  go_upto_region 1 with fail
  generalize hW : World.alloc _ _ = W
  have hX : Row W w.heap.size 30 2 (refR b c s) := by rw [← hW]; exact Row.new _ _ _ _ _ rfl
  have hB : Below w.heap.size w W := by rw [← hW]; exact (Below.refl _ _).alloc (Nat.le_refl _) _
  have hR := hr.keep hB
  have hV := hw.keep hB
  clear hW hr hw
  generalize hz : w.heap.size = a1 at *
  have HZ := Lib.hid hz; clear hz
  have hst : (fun w' : World => (WardIs w' g m N s ∧ RefIs F w' b Bk Cp s ∧ Row w' a1 30 2 (refR b c s) ∧ Below a1 w w') ∧ w'.cell? ⟨a1, 0, none⟩ = some (.slice (some ⟨b, 0, none⟩) s.levels c) ∧ w'.cell? ⟨a1, 1, none⟩ = some (.int .i64 s.slips)) W.drew := ⟨⟨hV.keep (Below.refl _ _).drew, hR.keep (Below.refl _ _).drew, hX.drew, hB.drew⟩, ref_cells hX⟩
  have hkeep : ∀ w1 w2 : World, Below w1.heap.size w1 w2 → (fun w' : World => (WardIs w' g m N s ∧ RefIs F w' b Bk Cp s ∧ Row w' a1 30 2 (refR b c s) ∧ Below a1 w w') ∧ w'.cell? ⟨a1, 0, none⟩ = some (.slice (some ⟨b, 0, none⟩) s.levels c) ∧ w'.cell? ⟨a1, 1, none⟩ = some (.int .i64 s.slips)) w1 → (fun w' : World => (WardIs w' g m N s ∧ RefIs F w' b Bk Cp s ∧ Row w' a1 30 2 (refR b c s) ∧ Below a1 w w') ∧ w'.cell? ⟨a1, 0, none⟩ = some (.slice (some ⟨b, 0, none⟩) s.levels c) ∧ w'.cell? ⟨a1, 1, none⟩ = some (.int .i64 s.slips)) w2 := fun w1 w2 hb h =>
    ⟨⟨h.1.1.keep hb, h.1.2.1.keep hb, h.1.2.2.1.keep hb, h.1.2.2.2.trans (hb.mono (Nat.le_of_lt h.1.2.2.1.lt))⟩, ref_cells (h.1.2.2.1.keep hb)⟩
  have HST := Lib.hid hst
  clear hst hX hB hR hV
  refine wp_region_noPanic ?_
  refine wp_region_held_drew (S := fun w' => (WardIs w' g m N s ∧ RefIs F w' b Bk Cp s ∧ Row w' a1 30 2 (refR b c s) ∧ Below a1 w w') ∧ w'.cell? ⟨a1, 0, none⟩ = some (.slice (some ⟨b, 0, none⟩) s.levels c) ∧ w'.cell? ⟨a1, 1, none⟩ = some (.int .i64 s.slips)) (by kernel_rfl) (HST.out) (fun hHeld => ?_)
  (refine wpAnyH_take (i := 0) (v := ?_) rfl (by kernel_rfl) (by kernel_rfl) (by kernel_rfl) (fun _ _ _ h => h) (Or.inl ⟨by rfl, ?_⟩) hHeld ?_; rotate_left; focus (intro w hSw; (try dsimp only at hSw); go_simp; (try with_reducible rfl)))
  try simp only [Act.put, List.getElem_toArray, List.getElem_cons_succ, List.getElem_cons_zero, List.setIfInBounds_toArray, List.set_cons_zero, List.set_cons_succ]
  (refine wpAnyH_take (i := 1) (v := ?_) rfl (by kernel_rfl) (by kernel_rfl) (by kernel_rfl) (fun _ _ _ h => h) (Or.inl ⟨by rfl, ?_⟩) hHeld ?_; rotate_left; focus (intro w hSw; (try dsimp only at hSw); go_simp; (try with_reducible rfl)))
  try simp only [Act.put, List.getElem_toArray, List.getElem_cons_succ, List.getElem_cons_zero, List.setIfInBounds_toArray, List.set_cons_zero, List.set_cons_succ]
  (refine wpAnyH_take (i := 3) (v := ?_) rfl (by kernel_rfl) (by kernel_rfl) (by kernel_rfl) (fun _ _ _ h => h) (Or.inl ⟨by rfl, ?_⟩) hHeld ?_; rotate_left; focus (intro w hSw; (try dsimp only at hSw); go_simp; (try with_reducible rfl)))
  try simp only [Act.put, List.getElem_toArray, List.getElem_cons_succ, List.getElem_cons_zero, List.setIfInBounds_toArray, List.set_cons_zero, List.set_cons_succ]
  (refine wpAnyH_take (i := 4) (v := ?_) rfl (by kernel_rfl) (by kernel_rfl) (by kernel_rfl) (fun _ _ _ h => h) (Or.inl ⟨by rfl, ?_⟩) hHeld ?_; rotate_left; focus (intro w hSw; (try dsimp only at hSw); go_simp; (try with_reducible rfl)))
  try simp only [Act.put, List.getElem_toArray, List.getElem_cons_succ, List.getElem_cons_zero, List.setIfInBounds_toArray, List.set_cons_zero, List.set_cons_succ]
  (refine wpAnyH_ready (rs := [2]) (by kernel_rfl) (by simp) ?_; refine AllReadyH.cons rfl (fun K hK => ?_) AllReadyH.nil; go_simp; (first | (go_at_call 17; refine (C1.out _ hHeld.1.1).mono ?_; rintro e w' ⟨rfl, hb⟩) | (go_at_call 22; refine (C2.out _ hHeld.1.2.1).mono ?_; rintro e w' ⟨rfl, hb⟩) | (go_at_call 18; refine (C3.out _ hHeld.1.1).mono ?_; rintro e w' ⟨rfl, rfl⟩) | (go_at_call 16; refine (C4.out _ hHeld.1.1).mono ?_; rintro e w' ⟨rfl, rfl⟩) | (go_at_call 11; refine (C5.out _ hHeld.1.2.1).mono ?_; rintro e w' ⟨rfl, hb⟩) | (go_at_call 15; refine (C6.out _ hHeld.1.1).mono ?_; rintro e w' ⟨rfl, hb⟩) | (go_at_call 23; refine (C7.out _ hHeld.1.2.1).mono ?_; rintro e w' ⟨rfl, hb⟩)); (try go_wp2_with fail); refine hK.out _ _ ?_ (fun hHeld' => ?_); (focus (first | exact hkeep _ _ hb hHeld | exact hHeld)); clear hK K; replace hHeld := hHeld'; clear hHeld')
  try simp only [Act.put, List.getElem_toArray, List.getElem_cons_succ, List.getElem_cons_zero, List.setIfInBounds_toArray, List.set_cons_zero, List.set_cons_succ]
  (refine wpAnyH_ready (rs := [5]) (by kernel_rfl) (by simp) ?_; refine AllReadyH.cons rfl (fun K hK => ?_) AllReadyH.nil; go_simp; (first | (go_at_call 17; refine (C1.out _ hHeld.1.1).mono ?_; rintro e w' ⟨rfl, hb⟩) | (go_at_call 22; refine (C2.out _ hHeld.1.2.1).mono ?_; rintro e w' ⟨rfl, hb⟩) | (go_at_call 18; refine (C3.out _ hHeld.1.1).mono ?_; rintro e w' ⟨rfl, rfl⟩) | (go_at_call 16; refine (C4.out _ hHeld.1.1).mono ?_; rintro e w' ⟨rfl, rfl⟩) | (go_at_call 11; refine (C5.out _ hHeld.1.2.1).mono ?_; rintro e w' ⟨rfl, hb⟩) | (go_at_call 15; refine (C6.out _ hHeld.1.1).mono ?_; rintro e w' ⟨rfl, hb⟩) | (go_at_call 23; refine (C7.out _ hHeld.1.2.1).mono ?_; rintro e w' ⟨rfl, hb⟩)); (try go_wp2_with fail); refine hK.out _ _ ?_ (fun hHeld' => ?_); (focus (first | exact hkeep _ _ hb hHeld | exact hHeld)); clear hK K; replace hHeld := hHeld'; clear hHeld')
  try simp only [Act.put, List.getElem_toArray, List.getElem_cons_succ, List.getElem_cons_zero, List.setIfInBounds_toArray, List.set_cons_zero, List.set_cons_succ]
  (refine wpAnyH_take (i := 6) (v := ?_) rfl (by kernel_rfl) (by kernel_rfl) (by kernel_rfl) (fun _ _ _ h => h) (Or.inl ⟨by rfl, ?_⟩) hHeld ?_; rotate_left; focus (intro w hSw; (try dsimp only at hSw); go_simp; (try with_reducible rfl)))
  try simp only [Act.put, List.getElem_toArray, List.getElem_cons_succ, List.getElem_cons_zero, List.setIfInBounds_toArray, List.set_cons_zero, List.set_cons_succ]
  (refine wpAnyH_take (i := 7) (v := ?_) rfl (by kernel_rfl) (by kernel_rfl) (by kernel_rfl) (fun _ _ _ h => h) (Or.inl ⟨by rfl, ?_⟩) hHeld ?_; rotate_left; focus (intro w hSw; (try dsimp only at hSw); go_simp; (try with_reducible rfl)))
  try simp only [Act.put, List.getElem_toArray, List.getElem_cons_succ, List.getElem_cons_zero, List.setIfInBounds_toArray, List.set_cons_zero, List.set_cons_succ]
  first | (refine wpAnyH_take (i := 8) rfl (by kernel_rfl) (by kernel_rfl) (by kernel_rfl) (fun _ _ _ h => h) (Or.inr ⟨by rfl, rfl⟩) hHeld ?_) | (refine wpAnyH_take (i := 8) (v := ?_) rfl (by kernel_rfl) (by kernel_rfl) (by kernel_rfl) (fun _ _ _ h => h) (Or.inl ⟨by rfl, ?_⟩) hHeld ?_; rotate_left; focus (intro w hSw; (try dsimp only at hSw); go_simp; (try with_reducible rfl)))
  try simp only [Act.put, List.getElem_toArray, List.getElem_cons_succ, List.getElem_cons_zero, List.setIfInBounds_toArray, List.set_cons_zero, List.set_cons_succ]
  first | (refine wpAnyH_take (i := 10) rfl (by kernel_rfl) (by kernel_rfl) (by kernel_rfl) (fun _ _ _ h => h) (Or.inr ⟨by rfl, rfl⟩) hHeld ?_) | (refine wpAnyH_take (i := 10) (v := ?_) rfl (by kernel_rfl) (by kernel_rfl) (by kernel_rfl) (fun _ _ _ h => h) (Or.inl ⟨by rfl, ?_⟩) hHeld ?_; rotate_left; focus (intro w hSw; (try dsimp only at hSw); go_simp; (try with_reducible rfl)))
  try simp only [Act.put, List.getElem_toArray, List.getElem_cons_succ, List.getElem_cons_zero, List.setIfInBounds_toArray, List.set_cons_zero, List.set_cons_succ]
  first | (refine wpAnyH_take (i := 11) rfl (by kernel_rfl) (by kernel_rfl) (by kernel_rfl) (fun _ _ _ h => h) (Or.inr ⟨by rfl, rfl⟩) hHeld ?_) | (refine wpAnyH_take (i := 11) (v := ?_) rfl (by kernel_rfl) (by kernel_rfl) (by kernel_rfl) (fun _ _ _ h => h) (Or.inl ⟨by rfl, ?_⟩) hHeld ?_; rotate_left; focus (intro w hSw; (try dsimp only at hSw); go_simp; (try with_reducible rfl)))
  try simp only [Act.put, List.getElem_toArray, List.getElem_cons_succ, List.getElem_cons_zero, List.setIfInBounds_toArray, List.set_cons_zero, List.set_cons_succ]
  first | (refine wpAnyH_take (i := 9) rfl (by kernel_rfl) (by kernel_rfl) (by kernel_rfl) (fun _ _ _ h => h) (Or.inr ⟨by rfl, rfl⟩) hHeld ?_) | (refine wpAnyH_ready (rs := [9]) (by kernel_rfl) (by simp) ?_; refine AllReadyH.cons rfl (fun K hK => ?_) AllReadyH.nil; go_simp; (first | (go_at_call 17; refine (C1.out _ hHeld.1.1).mono ?_; rintro e w' ⟨rfl, hb⟩) | (go_at_call 22; refine (C2.out _ hHeld.1.2.1).mono ?_; rintro e w' ⟨rfl, hb⟩) | (go_at_call 18; refine (C3.out _ hHeld.1.1).mono ?_; rintro e w' ⟨rfl, rfl⟩) | (go_at_call 16; refine (C4.out _ hHeld.1.1).mono ?_; rintro e w' ⟨rfl, rfl⟩) | (go_at_call 11; refine (C5.out _ hHeld.1.2.1).mono ?_; rintro e w' ⟨rfl, hb⟩) | (go_at_call 15; refine (C6.out _ hHeld.1.1).mono ?_; rintro e w' ⟨rfl, hb⟩) | (go_at_call 23; refine (C7.out _ hHeld.1.2.1).mono ?_; rintro e w' ⟨rfl, hb⟩)); (try go_wp2_with fail); refine hK.out _ _ ?_ (fun hHeld' => ?_); (focus (first | exact hkeep _ _ hb hHeld | exact hHeld)); clear hK K; replace hHeld := hHeld'; clear hHeld')
  try simp only [Act.put, List.getElem_toArray, List.getElem_cons_succ, List.getElem_cons_zero, List.setIfInBounds_toArray, List.set_cons_zero, List.set_cons_succ]
  first | (refine wpAnyH_take (i := 12) rfl (by kernel_rfl) (by kernel_rfl) (by kernel_rfl) (fun _ _ _ h => h) (Or.inr ⟨by rfl, rfl⟩) hHeld ?_) | (refine wpAnyH_take (i := 12) (v := ?_) rfl (by kernel_rfl) (by kernel_rfl) (by kernel_rfl) (fun _ _ _ h => h) (Or.inl ⟨by rfl, ?_⟩) hHeld ?_; rotate_left; focus (intro w hSw; (try dsimp only at hSw); go_simp; (try with_reducible rfl)))
  try simp only [Act.put, List.getElem_toArray, List.getElem_cons_succ, List.getElem_cons_zero, List.setIfInBounds_toArray, List.set_cons_zero, List.set_cons_succ]
  (refine wpAnyH_take (i := 13) (v := ?_) rfl (by kernel_rfl) (by kernel_rfl) (by kernel_rfl) (fun _ _ _ h => h) (Or.inl ⟨by rfl, ?_⟩) hHeld ?_; rotate_left; focus (intro w hSw; (try dsimp only at hSw); go_simp; (try with_reducible rfl)))
  try simp only [Act.put, List.getElem_toArray, List.getElem_cons_succ, List.getElem_cons_zero, List.setIfInBounds_toArray, List.set_cons_zero, List.set_cons_succ]
  (refine wpAnyH_take (i := 14) (v := ?_) rfl (by kernel_rfl) (by kernel_rfl) (by kernel_rfl) (fun _ _ _ h => h) (Or.inl ⟨by rfl, ?_⟩) hHeld ?_; rotate_left; focus (intro w hSw; (try dsimp only at hSw); go_simp; (try with_reducible rfl)))
  try simp only [Act.put, List.getElem_toArray, List.getElem_cons_succ, List.getElem_cons_zero, List.setIfInBounds_toArray, List.set_cons_zero, List.set_cons_succ]
  first | (refine wpAnyH_take (i := 15) rfl (by kernel_rfl) (by kernel_rfl) (by kernel_rfl) (fun _ _ _ h => h) (Or.inr ⟨by rfl, rfl⟩) hHeld ?_) | (refine wpAnyH_take (i := 15) (v := ?_) rfl (by kernel_rfl) (by kernel_rfl) (by kernel_rfl) (fun _ _ _ h => h) (Or.inl ⟨by rfl, ?_⟩) hHeld ?_; rotate_left; focus (intro w hSw; (try dsimp only at hSw); go_simp; (try with_reducible rfl)))
  try simp only [Act.put, List.getElem_toArray, List.getElem_cons_succ, List.getElem_cons_zero, List.setIfInBounds_toArray, List.set_cons_zero, List.set_cons_succ]
  first | (refine wpAnyH_take (i := 16) rfl (by kernel_rfl) (by kernel_rfl) (by kernel_rfl) (fun _ _ _ h => h) (Or.inr ⟨by rfl, rfl⟩) hHeld ?_) | (refine wpAnyH_take (i := 16) (v := ?_) rfl (by kernel_rfl) (by kernel_rfl) (by kernel_rfl) (fun _ _ _ h => h) (Or.inl ⟨by rfl, ?_⟩) hHeld ?_; rotate_left; focus (intro w hSw; (try dsimp only at hSw); go_simp; (try with_reducible rfl)))
  try simp only [Act.put, List.getElem_toArray, List.getElem_cons_succ, List.getElem_cons_zero, List.setIfInBounds_toArray, List.set_cons_zero, List.set_cons_succ]
  first | (refine wpAnyH_take (i := 17) rfl (by kernel_rfl) (by kernel_rfl) (by kernel_rfl) (fun _ _ _ h => h) (Or.inr ⟨by rfl, rfl⟩) hHeld ?_) | (refine wpAnyH_take (i := 17) (v := ?_) rfl (by kernel_rfl) (by kernel_rfl) (by kernel_rfl) (fun _ _ _ h => h) (Or.inl ⟨by rfl, ?_⟩) hHeld ?_; rotate_left; focus (intro w hSw; (try dsimp only at hSw); go_simp; (try with_reducible rfl)))
  try simp only [Act.put, List.getElem_toArray, List.getElem_cons_succ, List.getElem_cons_zero, List.setIfInBounds_toArray, List.set_cons_zero, List.set_cons_succ]
  first | (refine wpAnyH_take (i := 19) rfl (by kernel_rfl) (by kernel_rfl) (by kernel_rfl) (fun _ _ _ h => h) (Or.inr ⟨by rfl, rfl⟩) hHeld ?_) | (refine wpAnyH_take (i := 19) (v := ?_) rfl (by kernel_rfl) (by kernel_rfl) (by kernel_rfl) (fun _ _ _ h => h) (Or.inl ⟨by rfl, ?_⟩) hHeld ?_; rotate_left; focus (intro w hSw; (try dsimp only at hSw); go_simp; (try with_reducible rfl)))
  try simp only [Act.put, List.getElem_toArray, List.getElem_cons_succ, List.getElem_cons_zero, List.setIfInBounds_toArray, List.set_cons_zero, List.set_cons_succ]
  first | (refine wpAnyH_take (i := 20) rfl (by kernel_rfl) (by kernel_rfl) (by kernel_rfl) (fun _ _ _ h => h) (Or.inr ⟨by rfl, rfl⟩) hHeld ?_) | (refine wpAnyH_take (i := 20) (v := ?_) rfl (by kernel_rfl) (by kernel_rfl) (by kernel_rfl) (fun _ _ _ h => h) (Or.inl ⟨by rfl, ?_⟩) hHeld ?_; rotate_left; focus (intro w hSw; (try dsimp only at hSw); go_simp; (try with_reducible rfl)))
  try simp only [Act.put, List.getElem_toArray, List.getElem_cons_succ, List.getElem_cons_zero, List.setIfInBounds_toArray, List.set_cons_zero, List.set_cons_succ]
  first | (refine wpAnyH_take (i := 21) rfl (by kernel_rfl) (by kernel_rfl) (by kernel_rfl) (fun _ _ _ h => h) (Or.inr ⟨by rfl, rfl⟩) hHeld ?_) | (refine wpAnyH_take (i := 21) (v := ?_) rfl (by kernel_rfl) (by kernel_rfl) (by kernel_rfl) (fun _ _ _ h => h) (Or.inl ⟨by rfl, ?_⟩) hHeld ?_; rotate_left; focus (intro w hSw; (try dsimp only at hSw); go_simp; (try with_reducible rfl)))
  try simp only [Act.put, List.getElem_toArray, List.getElem_cons_succ, List.getElem_cons_zero, List.setIfInBounds_toArray, List.set_cons_zero, List.set_cons_succ]
  first | (refine wpAnyH_take (i := 18) rfl (by kernel_rfl) (by kernel_rfl) (by kernel_rfl) (fun _ _ _ h => h) (Or.inr ⟨by rfl, rfl⟩) hHeld ?_) | (refine wpAnyH_ready (rs := [18]) (by kernel_rfl) (by simp) ?_; refine AllReadyH.cons rfl (fun K hK => ?_) AllReadyH.nil; go_simp; (first | (go_at_call 17; refine (C1.out _ hHeld.1.1).mono ?_; rintro e w' ⟨rfl, hb⟩) | (go_at_call 22; refine (C2.out _ hHeld.1.2.1).mono ?_; rintro e w' ⟨rfl, hb⟩) | (go_at_call 18; refine (C3.out _ hHeld.1.1).mono ?_; rintro e w' ⟨rfl, rfl⟩) | (go_at_call 16; refine (C4.out _ hHeld.1.1).mono ?_; rintro e w' ⟨rfl, rfl⟩) | (go_at_call 11; refine (C5.out _ hHeld.1.2.1).mono ?_; rintro e w' ⟨rfl, hb⟩) | (go_at_call 15; refine (C6.out _ hHeld.1.1).mono ?_; rintro e w' ⟨rfl, hb⟩) | (go_at_call 23; refine (C7.out _ hHeld.1.2.1).mono ?_; rintro e w' ⟨rfl, hb⟩)); (try go_wp2_with fail); refine hK.out _ _ ?_ (fun hHeld' => ?_); (focus (first | exact hkeep _ _ hb hHeld | exact hHeld)); clear hK K; replace hHeld := hHeld'; clear hHeld')
  try simp only [Act.put, List.getElem_toArray, List.getElem_cons_succ, List.getElem_cons_zero, List.setIfInBounds_toArray, List.set_cons_zero, List.set_cons_succ]
  first | (refine wpAnyH_take (i := 22) rfl (by kernel_rfl) (by kernel_rfl) (by kernel_rfl) (fun _ _ _ h => h) (Or.inr ⟨by rfl, rfl⟩) hHeld ?_) | (refine wpAnyH_ready (rs := [22]) (by kernel_rfl) (by simp) ?_; refine AllReadyH.cons rfl (fun K hK => ?_) AllReadyH.nil; go_simp; (first | (go_at_call 17; refine (C1.out _ hHeld.1.1).mono ?_; rintro e w' ⟨rfl, hb⟩) | (go_at_call 22; refine (C2.out _ hHeld.1.2.1).mono ?_; rintro e w' ⟨rfl, hb⟩) | (go_at_call 18; refine (C3.out _ hHeld.1.1).mono ?_; rintro e w' ⟨rfl, rfl⟩) | (go_at_call 16; refine (C4.out _ hHeld.1.1).mono ?_; rintro e w' ⟨rfl, rfl⟩) | (go_at_call 11; refine (C5.out _ hHeld.1.2.1).mono ?_; rintro e w' ⟨rfl, hb⟩) | (go_at_call 15; refine (C6.out _ hHeld.1.1).mono ?_; rintro e w' ⟨rfl, hb⟩) | (go_at_call 23; refine (C7.out _ hHeld.1.2.1).mono ?_; rintro e w' ⟨rfl, hb⟩)); (try go_wp2_with fail); refine hK.out _ _ ?_ (fun hHeld' => ?_); (focus (first | exact hkeep _ _ hb hHeld | exact hHeld)); clear hK K; replace hHeld := hHeld'; clear hHeld')
  try simp only [Act.put, List.getElem_toArray, List.getElem_cons_succ, List.getElem_cons_zero, List.setIfInBounds_toArray, List.set_cons_zero, List.set_cons_succ]
  first | (refine wpAnyH_take (i := 23) rfl (by kernel_rfl) (by kernel_rfl) (by kernel_rfl) (fun _ _ _ h => h) (Or.inr ⟨by rfl, rfl⟩) hHeld ?_) | (refine wpAnyH_take (i := 23) (v := ?_) rfl (by kernel_rfl) (by kernel_rfl) (by kernel_rfl) (fun _ _ _ h => h) (Or.inl ⟨by rfl, ?_⟩) hHeld ?_; rotate_left; focus (intro w hSw; (try dsimp only at hSw); go_simp; (try with_reducible rfl)))
  try simp only [Act.put, List.getElem_toArray, List.getElem_cons_succ, List.getElem_cons_zero, List.setIfInBounds_toArray, List.set_cons_zero, List.set_cons_succ]
  (refine wpAnyH_take (i := 24) (v := ?_) rfl (by kernel_rfl) (by kernel_rfl) (by kernel_rfl) (fun _ _ _ h => h) (Or.inl ⟨by rfl, ?_⟩) hHeld ?_; rotate_left; focus (intro w hSw; (try dsimp only at hSw); go_simp; (try with_reducible rfl)))
  try simp only [Act.put, List.getElem_toArray, List.getElem_cons_succ, List.getElem_cons_zero, List.setIfInBounds_toArray, List.set_cons_zero, List.set_cons_succ]
  (refine wpAnyH_take (i := 25) (v := ?_) rfl (by kernel_rfl) (by kernel_rfl) (by kernel_rfl) (fun _ _ _ h => h) (Or.inl ⟨by rfl, ?_⟩) hHeld ?_; rotate_left; focus (intro w hSw; (try dsimp only at hSw); go_simp; (try with_reducible rfl)))
  try simp only [Act.put, List.getElem_toArray, List.getElem_cons_succ, List.getElem_cons_zero, List.setIfInBounds_toArray, List.set_cons_zero, List.set_cons_succ]
  first | (refine wpAnyH_take (i := 26) rfl (by kernel_rfl) (by kernel_rfl) (by kernel_rfl) (fun _ _ _ h => h) (Or.inr ⟨by rfl, rfl⟩) hHeld ?_) | (refine wpAnyH_take (i := 26) (v := ?_) rfl (by kernel_rfl) (by kernel_rfl) (by kernel_rfl) (fun _ _ _ h => h) (Or.inl ⟨by rfl, ?_⟩) hHeld ?_; rotate_left; focus (intro w hSw; (try dsimp only at hSw); go_simp; (try with_reducible rfl)))
  try simp only [Act.put, List.getElem_toArray, List.getElem_cons_succ, List.getElem_cons_zero, List.setIfInBounds_toArray, List.set_cons_zero, List.set_cons_succ]
  first | (refine wpAnyH_take (i := 27) rfl (by kernel_rfl) (by kernel_rfl) (by kernel_rfl) (fun _ _ _ h => h) (Or.inr ⟨by rfl, rfl⟩) hHeld ?_) | (refine wpAnyH_take (i := 27) (v := ?_) rfl (by kernel_rfl) (by kernel_rfl) (by kernel_rfl) (fun _ _ _ h => h) (Or.inl ⟨by rfl, ?_⟩) hHeld ?_; rotate_left; focus (intro w hSw; (try dsimp only at hSw); go_simp; (try with_reducible rfl)))
  try simp only [Act.put, List.getElem_toArray, List.getElem_cons_succ, List.getElem_cons_zero, List.setIfInBounds_toArray, List.set_cons_zero, List.set_cons_succ]
  first | (refine wpAnyH_take (i := 28) rfl (by kernel_rfl) (by kernel_rfl) (by kernel_rfl) (fun _ _ _ h => h) (Or.inr ⟨by rfl, rfl⟩) hHeld ?_) | (refine wpAnyH_take (i := 28) (v := ?_) rfl (by kernel_rfl) (by kernel_rfl) (by kernel_rfl) (fun _ _ _ h => h) (Or.inl ⟨by rfl, ?_⟩) hHeld ?_; rotate_left; focus (intro w hSw; (try dsimp only at hSw); go_simp; (try with_reducible rfl)))
  try simp only [Act.put, List.getElem_toArray, List.getElem_cons_succ, List.getElem_cons_zero, List.setIfInBounds_toArray, List.set_cons_zero, List.set_cons_succ]
  first | (refine wpAnyH_take (i := 30) rfl (by kernel_rfl) (by kernel_rfl) (by kernel_rfl) (fun _ _ _ h => h) (Or.inr ⟨by rfl, rfl⟩) hHeld ?_) | (refine wpAnyH_take (i := 30) (v := ?_) rfl (by kernel_rfl) (by kernel_rfl) (by kernel_rfl) (fun _ _ _ h => h) (Or.inl ⟨by rfl, ?_⟩) hHeld ?_; rotate_left; focus (intro w hSw; (try dsimp only at hSw); go_simp; (try with_reducible rfl)))
  try simp only [Act.put, List.getElem_toArray, List.getElem_cons_succ, List.getElem_cons_zero, List.setIfInBounds_toArray, List.set_cons_zero, List.set_cons_succ]
  first | (refine wpAnyH_take (i := 31) rfl (by kernel_rfl) (by kernel_rfl) (by kernel_rfl) (fun _ _ _ h => h) (Or.inr ⟨by rfl, rfl⟩) hHeld ?_) | (refine wpAnyH_take (i := 31) (v := ?_) rfl (by kernel_rfl) (by kernel_rfl) (by kernel_rfl) (fun _ _ _ h => h) (Or.inl ⟨by rfl, ?_⟩) hHeld ?_; rotate_left; focus (intro w hSw; (try dsimp only at hSw); go_simp; (try with_reducible rfl)))
  try simp only [Act.put, List.getElem_toArray, List.getElem_cons_succ, List.getElem_cons_zero, List.setIfInBounds_toArray, List.set_cons_zero, List.set_cons_succ]
  first | (refine wpAnyH_take (i := 32) rfl (by kernel_rfl) (by kernel_rfl) (by kernel_rfl) (fun _ _ _ h => h) (Or.inr ⟨by rfl, rfl⟩) hHeld ?_) | (refine wpAnyH_take (i := 32) (v := ?_) rfl (by kernel_rfl) (by kernel_rfl) (by kernel_rfl) (fun _ _ _ h => h) (Or.inl ⟨by rfl, ?_⟩) hHeld ?_; rotate_left; focus (intro w hSw; (try dsimp only at hSw); go_simp; (try with_reducible rfl)))
  try simp only [Act.put, List.getElem_toArray, List.getElem_cons_succ, List.getElem_cons_zero, List.setIfInBounds_toArray, List.set_cons_zero, List.set_cons_succ]
  first | (refine wpAnyH_take (i := 29) rfl (by kernel_rfl) (by kernel_rfl) (by kernel_rfl) (fun _ _ _ h => h) (Or.inr ⟨by rfl, rfl⟩) hHeld ?_) | (refine wpAnyH_ready (rs := [29]) (by kernel_rfl) (by simp) ?_; refine AllReadyH.cons rfl (fun K hK => ?_) AllReadyH.nil; go_simp; (first | (go_at_call 17; refine (C1.out _ hHeld.1.1).mono ?_; rintro e w' ⟨rfl, hb⟩) | (go_at_call 22; refine (C2.out _ hHeld.1.2.1).mono ?_; rintro e w' ⟨rfl, hb⟩) | (go_at_call 18; refine (C3.out _ hHeld.1.1).mono ?_; rintro e w' ⟨rfl, rfl⟩) | (go_at_call 16; refine (C4.out _ hHeld.1.1).mono ?_; rintro e w' ⟨rfl, rfl⟩) | (go_at_call 11; refine (C5.out _ hHeld.1.2.1).mono ?_; rintro e w' ⟨rfl, hb⟩) | (go_at_call 15; refine (C6.out _ hHeld.1.1).mono ?_; rintro e w' ⟨rfl, hb⟩) | (go_at_call 23; refine (C7.out _ hHeld.1.2.1).mono ?_; rintro e w' ⟨rfl, hb⟩)); (try go_wp2_with fail); refine hK.out _ _ ?_ (fun hHeld' => ?_); (focus (first | exact hkeep _ _ hb hHeld | exact hHeld)); clear hK K; replace hHeld := hHeld'; clear hHeld')
  try simp only [Act.put, List.getElem_toArray, List.getElem_cons_succ, List.getElem_cons_zero, List.setIfInBounds_toArray, List.set_cons_zero, List.set_cons_succ]
  first | (refine wpAnyH_take (i := 33) rfl (by kernel_rfl) (by kernel_rfl) (by kernel_rfl) (fun _ _ _ h => h) (Or.inr ⟨by rfl, rfl⟩) hHeld ?_) | (refine wpAnyH_ready (rs := [33]) (by kernel_rfl) (by simp) ?_; refine AllReadyH.cons rfl (fun K hK => ?_) AllReadyH.nil; go_simp; (first | (go_at_call 17; refine (C1.out _ hHeld.1.1).mono ?_; rintro e w' ⟨rfl, hb⟩) | (go_at_call 22; refine (C2.out _ hHeld.1.2.1).mono ?_; rintro e w' ⟨rfl, hb⟩) | (go_at_call 18; refine (C3.out _ hHeld.1.1).mono ?_; rintro e w' ⟨rfl, rfl⟩) | (go_at_call 16; refine (C4.out _ hHeld.1.1).mono ?_; rintro e w' ⟨rfl, rfl⟩) | (go_at_call 11; refine (C5.out _ hHeld.1.2.1).mono ?_; rintro e w' ⟨rfl, hb⟩) | (go_at_call 15; refine (C6.out _ hHeld.1.1).mono ?_; rintro e w' ⟨rfl, hb⟩) | (go_at_call 23; refine (C7.out _ hHeld.1.2.1).mono ?_; rintro e w' ⟨rfl, hb⟩)); (try go_wp2_with fail); refine hK.out _ _ ?_ (fun hHeld' => ?_); (focus (first | exact hkeep _ _ hb hHeld | exact hHeld)); clear hK K; replace hHeld := hHeld'; clear hHeld')
  try simp only [Act.put, List.getElem_toArray, List.getElem_cons_succ, List.getElem_cons_zero, List.setIfInBounds_toArray, List.set_cons_zero, List.set_cons_succ]
  first | (refine wpAnyH_take (i := 34) rfl (by kernel_rfl) (by kernel_rfl) (by kernel_rfl) (fun _ _ _ h => h) (Or.inr ⟨by rfl, rfl⟩) hHeld ?_) | (refine wpAnyH_take (i := 34) (v := ?_) rfl (by kernel_rfl) (by kernel_rfl) (by kernel_rfl) (fun _ _ _ h => h) (Or.inl ⟨by rfl, ?_⟩) hHeld ?_; rotate_left; focus (intro w hSw; (try dsimp only at hSw); go_simp; (try with_reducible rfl)))
  try simp only [Act.put, List.getElem_toArray, List.getElem_cons_succ, List.getElem_cons_zero, List.setIfInBounds_toArray, List.set_cons_zero, List.set_cons_succ]
  (refine wpAnyH_take (i := 35) (v := ?_) rfl (by kernel_rfl) (by kernel_rfl) (by kernel_rfl) (fun _ _ _ h => h) (Or.inl ⟨by rfl, ?_⟩) hHeld ?_; rotate_left; focus (intro w hSw; (try dsimp only at hSw); go_simp; (try with_reducible rfl)))
  try simp only [Act.put, List.getElem_toArray, List.getElem_cons_succ, List.getElem_cons_zero, List.setIfInBounds_toArray, List.set_cons_zero, List.set_cons_succ]
  (refine wpAnyH_take (i := 36) (v := ?_) rfl (by kernel_rfl) (by kernel_rfl) (by kernel_rfl) (fun _ _ _ h => h) (Or.inl ⟨by rfl, ?_⟩) hHeld ?_; rotate_left; focus (intro w hSw; (try dsimp only at hSw); go_simp; (try with_reducible rfl)))
  try simp only [Act.put, List.getElem_toArray, List.getElem_cons_succ, List.getElem_cons_zero, List.setIfInBounds_toArray, List.set_cons_zero, List.set_cons_succ]
  refine wpAnyH_done (by kernel_rfl) ?_ _
  refine NoPanic.normal ?_
  go_wp2_with fail
  go_ret
  exact ⟨rfl, by rw [HZ.out]; exact hHeld.1.2.2.2⟩

/-- What a call leaves, of both wardens. -/
def DoDone (F : Nat → Prop) (w : World) (g m N : Nat) (s : Ward) (e : Ending) (w' : World) : Prop :=
  ∃ b' c' Bk' Cp', e = .returned (.tuple #[.agg #[.slice (some ⟨b', 0, none⟩) s.levels c', .int .i64 s.slips], .bool true]) ∧ RefIs F w' b' Bk' Cp' s ∧ WardIs w' g m N s ∧ Only (Two g m) w w'
set_option maxHeartbeats 8000000 in
theorem lDo_any (hF : ∀ i, F i → i < w.heap.size) (hFg : ∀ i, Two g m i → F i) (o : OpW) (ho : OkOp o) : Calls Try.prog 9 #[.pointer (some ⟨g, 0, none⟩), .agg #[.slice (some ⟨b, 0, none⟩) s.levels c, .int .i64 s.slips], .agg (rowOf 3 (opV o))] w (DoDone F w g m (N + 1) (doW s o)) := by
  have HFG := Lib.hid hFg
  have HF := Lib.hid hF
  have HGM := Lib.hid (And.intro hw.row.lt hw.set.lt)
  have HS := Lib.hid hs
  have HR := Lib.hid hr
  clear hFg hF hs
  go_enter Try.func9, Try.ntmps9
  go_upto_region 1 with fail
  generalize hW : World.alloc _ _ = W
  obtain ⟨hB, hx, hop, hq⟩ := three_blocks w 30 35 30 2 3 2 (refR b c s) (opV o) (fun j => match j with | 0 => .slice none 0 0 | _ => .int .i64 0) W hW
  clear hW
  have hV := hw.keep hB
  clear hw hr
  generalize hz : w.heap.size = a1 at *
  have HZ := Lib.hid hz; clear hz
  have hR' := (HR.out.and (G := fun x => x = a1 + 1 + 1) (fun x hx => by rw [HZ.out] at hx; show ¬ x = a1 + 1 + 1; omega)).keep (by rw [HZ.out]; exact hB)
  obtain ⟨u0, u1⟩ := ref_cells hx
  obtain ⟨o0, o1, o2⟩ := opV_cells hop
  have hFW : ∀ x, (F x ∨ x = a1 + 1 + 1) → x < W.heap.size := fun x hx => hx.elim (fun h => by have := HF.out x h; have := hq.lt; omega) (fun h => by have := hq.lt; omega)
  have H0 := Lib.hid (And.intro hx (And.intro hop (And.intro hq (And.intro hV hB))))
  have HR' := Lib.hid hR'
  have HFW := Lib.hid hFW
  clear hx hop hq hV hB hR' hFW
  cases ht : o.t
  · have e1 : doW s o = dropW s o.l o.s := by unfold doW; rw [ht]; rfl
    rw [ht] at o0
    have HE := Lib.hid e1
    have HC : Hid (∀ V, WardIs V g m N s → Calls Try.prog 14 #[.pointer (some ⟨g, 0, none⟩), .int .i64 o.l, .int .i64 o.s] V (DoneW V g m (N + 1) (dropW s o.l o.s) (s.held o.l o.s))) := Lib.hid fun V hV => wDrop_any s N HS.out hN g m V hV o.l o.s ho.1 ho.2
    have hD := rDrop_any (fun x => F x ∨ x = a1 + 1 + 1) b c Bk Cp s N HS.out W HR'.out HFW.out hN o.l o.s ho.1 ho.2
    have HD := Lib.hid hD
    clear hD ht e1 HS
    generalize hs2 : dropW s o.l o.s = s2 at *
    generalize s.held o.l o.s = q at *
    clear hs2
    go_upto_region 5 with (go_at_call 21; refine HD.out.mono ?_; rintro e w1 ⟨b', c', Bk', Cp', rfl, hR1, hb1⟩)
    generalize hW3 : World.alloc _ _ = W3
    have hb3 : Below w1.heap.size w1 W3 := by rw [← hW3]; exact (Below.refl _ _).alloc (Nat.le_refl _) _
    have hy : Row W3 w1.heap.size 30 2 (refR b' c' s2) := by rw [← hW3]; exact Row.new _ _ _ _ _ rfl
    clear hW3 u0 u1 o0 o1 o2
    have hq3 := (H0.out.2.2.1.keep hb1).keep hb3
    have hop3 := (H0.out.2.1.keep hb1).keep hb3
    have hR3 := hR1.keep hb3
    have hV3 := (H0.out.2.2.2.1.keep hb1).keep hb3
    have hB3 : Below a1 w W3 := (H0.out.2.2.2.2.trans (hb1.mono (by have := H0.out.1.lt; omega))).trans (hb3.mono (by have := (H0.out.1.keep hb1).lt; omega))
    have hlt : a1 + 1 + 1 < w1.heap.size := (H0.out.2.2.1.keep hb1).lt
    generalize w1.heap.size = Y at *
    have H3 := Lib.hid (And.intro hy (And.intro hop3 (And.intro hq3 (And.intro hR3 (And.intro hV3 hB3)))))
    clear hb1 hb3 hR1 hy hq3 hop3 hR3 hV3 hB3 H0
    have hS : ∀ W, Row W Y 30 2 (refR b' c' s2) → Row W (a1 + 1) 35 3 (opV o) → (fun w' : World => w'.cell? ⟨Y, 0, none⟩ = some (.slice (some ⟨b', 0, none⟩) s2.levels c') ∧ w'.cell? ⟨Y, 1, none⟩ = some (.int .i64 s2.slips) ∧ w'.cell? ⟨a1 + 1, 1, none⟩ = some (.int .i64 o.l) ∧ w'.cell? ⟨a1 + 1, 2, none⟩ = some (.int .i64 o.s)) W := fun W h1 h2 => ⟨(ref_cells h1).1, (ref_cells h1).2, (opV_cells h2).2.1, (opV_cells h2).2.2⟩
    have hst := Lib.hid (hS W3.drew H3.out.1.drew H3.out.2.1.drew)
    have n1 : Y ≠ a1 + 1 + 1 := by omega
    have n2 : a1 + 1 ≠ a1 + 1 + 1 := by omega
    have hTD := HC.out W3.drew (H3.out.2.2.2.2.1.keep (Below.refl _ _).drew)
    have HTD := Lib.hid hTD
    clear hTD HC
    refine wp_region_noPanic ?_
    refine wp_region_held_drew (S := fun w' => w'.cell? ⟨Y, 0, none⟩ = some (.slice (some ⟨b', 0, none⟩) s2.levels c') ∧ w'.cell? ⟨Y, 1, none⟩ = some (.int .i64 s2.slips) ∧ w'.cell? ⟨a1 + 1, 1, none⟩ = some (.int .i64 o.l) ∧ w'.cell? ⟨a1 + 1, 2, none⟩ = some (.int .i64 o.s)) (by kernel_rfl) (hst.out) (fun hHeld => ?_)
    (refine wpAnyH_take (i := 0) (v := ?_) rfl (by kernel_rfl) (by kernel_rfl) (by kernel_rfl) (fun _ _ _ h => h) (Or.inl ⟨by rfl, ?_⟩) hHeld ?_; rotate_left; focus (intro w hSw; (try dsimp only at hSw); go_simp; (try with_reducible rfl)))
    try simp only [Act.put, List.getElem_toArray, List.getElem_cons_succ, List.getElem_cons_zero, List.setIfInBounds_toArray, List.set_cons_zero, List.set_cons_succ]
    (refine wpAnyH_take (i := 1) (v := ?_) rfl (by kernel_rfl) (by kernel_rfl) (by kernel_rfl) (fun _ _ _ h => h) (Or.inl ⟨by rfl, ?_⟩) hHeld ?_; rotate_left; focus (intro w hSw; (try dsimp only at hSw); go_simp; (try with_reducible rfl)))
    try simp only [Act.put, List.getElem_toArray, List.getElem_cons_succ, List.getElem_cons_zero, List.setIfInBounds_toArray, List.set_cons_zero, List.set_cons_succ]
    (refine wpAnyH_take (i := 2) (v := ?_) rfl (by kernel_rfl) (by kernel_rfl) (by kernel_rfl) (fun _ _ _ h => h) (Or.inl ⟨by rfl, ?_⟩) hHeld ?_; rotate_left; focus (intro w hSw; (try dsimp only at hSw); go_simp; (try with_reducible rfl)))
    try simp only [Act.put, List.getElem_toArray, List.getElem_cons_succ, List.getElem_cons_zero, List.setIfInBounds_toArray, List.set_cons_zero, List.set_cons_succ]
    (refine wpAnyH_take (i := 3) (v := ?_) rfl (by kernel_rfl) (by kernel_rfl) (by kernel_rfl) (fun _ _ _ h => h) (Or.inl ⟨by rfl, ?_⟩) hHeld ?_; rotate_left; focus (intro w hSw; (try dsimp only at hSw); go_simp; (try with_reducible rfl)))
    try simp only [Act.put, List.getElem_toArray, List.getElem_cons_succ, List.getElem_cons_zero, List.setIfInBounds_toArray, List.set_cons_zero, List.set_cons_succ]
    (refine wpAnyH_take (i := 4) (v := ?_) rfl (by kernel_rfl) (by kernel_rfl) (by kernel_rfl) (fun _ _ _ h => h) (Or.inl ⟨by rfl, ?_⟩) hHeld ?_; rotate_left; focus (intro w hSw; (try dsimp only at hSw); go_simp; (try with_reducible rfl)))
    try simp only [Act.put, List.getElem_toArray, List.getElem_cons_succ, List.getElem_cons_zero, List.setIfInBounds_toArray, List.set_cons_zero, List.set_cons_succ]
    (refine wpAnyH_take (i := 5) (v := ?_) rfl (by kernel_rfl) (by kernel_rfl) (by kernel_rfl) (fun _ _ _ h => h) (Or.inl ⟨by rfl, ?_⟩) hHeld ?_; rotate_left; focus (intro w hSw; (try dsimp only at hSw); go_simp; (try with_reducible rfl)))
    try simp only [Act.put, List.getElem_toArray, List.getElem_cons_succ, List.getElem_cons_zero, List.setIfInBounds_toArray, List.set_cons_zero, List.set_cons_succ]
    (refine wpAnyH_take (i := 7) (v := ?_) rfl (by kernel_rfl) (by kernel_rfl) (by kernel_rfl) (fun _ _ _ h => h) (Or.inl ⟨by rfl, ?_⟩) hHeld ?_; rotate_left; focus (intro w hSw; (try dsimp only at hSw); go_simp; (try with_reducible rfl)))
    try simp only [Act.put, List.getElem_toArray, List.getElem_cons_succ, List.getElem_cons_zero, List.setIfInBounds_toArray, List.set_cons_zero, List.set_cons_succ]
    (refine wpAnyH_ready (rs := [6]) (by kernel_rfl) (by simp) ?_; refine AllReadyH.cons rfl (fun K hK => ?_) AllReadyH.nil; go_simp; (go_at_call 14; refine HTD.out.mono ?_; rintro e w5 ⟨rfl, hm5, ho5⟩; have A5 := Lib.hid (And.intro (H3.out.1.drew.only ho5 (by have := HGM.out; rintro (e | e) <;> omega)) (And.intro (H3.out.2.1.drew.only ho5 (by have := HGM.out; rintro (e | e) <;> omega)) (And.intro (H3.out.2.2.1.drew.only ho5 (by have := HGM.out; rintro (e | e) <;> omega)) (And.intro hm5 ho5)))); have q0 := A5.out.2.2.1.cell (i := 0) (by omega); have q1 := A5.out.2.2.1.cell (i := 1) (by omega); have q2 := A5.out.2.2.1.frozen 0; have q3 := A5.out.2.2.1.frozen 1; clear hm5 ho5); (try go_wp2_with fail); refine hK.out _ _ ?_ (fun hHeld' => ?_); (focus (first | exact hS _ A5.out.1 A5.out.2.1 | exact hS _ ((A5.out.1.far n1 _).far n1 _) ((A5.out.2.1.far n2 _).far n2 _))); clear hK K; replace hHeld := hHeld'; clear hHeld')
    try simp only [Act.put, List.getElem_toArray, List.getElem_cons_succ, List.getElem_cons_zero, List.setIfInBounds_toArray, List.set_cons_zero, List.set_cons_succ]
    (refine wpAnyH_take (i := 8) (v := ?_) rfl (by kernel_rfl) (by kernel_rfl) (by kernel_rfl) (fun _ _ _ h => h) (Or.inl ⟨by rfl, ?_⟩) hHeld ?_; rotate_left; focus (intro w hSw; (try dsimp only at hSw); go_simp; (try with_reducible rfl)))
    try simp only [Act.put, List.getElem_toArray, List.getElem_cons_succ, List.getElem_cons_zero, List.setIfInBounds_toArray, List.set_cons_zero, List.set_cons_succ]
    (refine wpAnyH_ready (rs := [9]) (by kernel_rfl) (by simp) ?_; refine AllReadyH.cons rfl (fun K hK => ?_) AllReadyH.nil; go_simp; skip; (try go_wp2_with fail); refine hK.out _ _ ?_ (fun hHeld' => ?_); (focus (first | exact hS _ A5.out.1 A5.out.2.1 | exact hS _ ((A5.out.1.far n1 _).far n1 _) ((A5.out.2.1.far n2 _).far n2 _))); clear hK K; replace hHeld := hHeld'; clear hHeld')
    try simp only [Act.put, List.getElem_toArray, List.getElem_cons_succ, List.getElem_cons_zero, List.setIfInBounds_toArray, List.set_cons_zero, List.set_cons_succ]
    (refine wpAnyH_take (i := 10) (v := ?_) rfl (by kernel_rfl) (by kernel_rfl) (by kernel_rfl) (fun _ _ _ h => h) (Or.inl ⟨by rfl, ?_⟩) hHeld ?_; rotate_left; focus (intro w hSw; (try dsimp only at hSw); go_simp; (try with_reducible rfl)))
    try simp only [Act.put, List.getElem_toArray, List.getElem_cons_succ, List.getElem_cons_zero, List.setIfInBounds_toArray, List.set_cons_zero, List.set_cons_succ]
    refine wpAnyH_done (by kernel_rfl) ?_ _
    refine NoPanic.normal ?_
    clear q0 q1 q2 q3 hS hst HTD HD
    go_wp2_with fail
    have ho6 : Only (fun x => x = a1 + 1 + 1) w5 ((w5.setCell ⟨a1 + 1 + 1, 0, none⟩ (.slice (some ⟨b', 0, none⟩) s2.levels c')).setCell ⟨a1 + 1 + 1, 1, none⟩ (.int .i64 s2.slips)) := by
      refine Only.setCell (Only.setCell (Only.refl _ w5) ?_ _) ?_ _
      all_goals rfl
    have hq6 := ((A5.out.2.2.1.set_ 0 (.slice (some ⟨b', 0, none⟩) s2.levels c')).set_ 1 (.int .i64 s2.slips)).congr (f' := refR b' c' s2) fun j hj => by
      match j, hj with
      | 0, _ => rfl
      | 1, _ => rfl
    have hR6 : RefIs F ((w5.setCell ⟨a1 + 1 + 1, 0, none⟩ (.slice (some ⟨b', 0, none⟩) s2.levels c')).setCell ⟨a1 + 1 + 1, 1, none⟩ (.int .i64 s2.slips)) b' Bk' Cp' s2 :=
      ((H3.out.2.2.2.1.keep (Below.refl _ _).drew).only (A5.out.2.2.2.2.mono fun x _ e => Or.inl (HFG.out x e)) |>.only (ho6.mono fun _ _ e => Or.inr e)).weak fun _ e => Or.inl e
    have hV6 : WardIs ((w5.setCell ⟨a1 + 1 + 1, 0, none⟩ (.slice (some ⟨b', 0, none⟩) s2.levels c')).setCell ⟨a1 + 1 + 1, 1, none⟩ (.int .i64 s2.slips)) g m (N + 1) s2 := A5.out.2.2.2.1.only ho6 (fun e => by have e' : g = a1 + 1 + 1 := e; have := HGM.out; omega) (fun e => by have e' : m = a1 + 1 + 1 := e; have := HGM.out; omega)
    have hO6 : Only (Two g m) w ((w5.setCell ⟨a1 + 1 + 1, 0, none⟩ (.slice (some ⟨b', 0, none⟩) s2.levels c')).setCell ⟨a1 + 1 + 1, 1, none⟩ (.int .i64 s2.slips)) := by
      have q1 : Only (Two g m) w w5 := (only_below (by rw [HZ.out]; exact H3.out.2.2.2.2.2.drew) _).trans A5.out.2.2.2.2
      refine ⟨q1.1.trans ho6.1, fun i hi hn => (ho6.2 i (Nat.lt_of_lt_of_le hi q1.size) (fun e => by have e' : i = a1 + 1 + 1 := e; rw [HZ.out] at hi; omega)).trans (q1.2 i hi hn)⟩
    exact bodyPost_ret (results_row_tmp (p := 6) (u := 7) (ty := 30) (by kernel_rfl) _ _ (a1 + 1 + 1) 30 (rowOf 2 (refR b' c' s2)) (0, 0) _ rfl hq6 Try.underlying30 rfl (by kernel_rfl)) rfl
      (by rw [HE.out]; exact ⟨b', c', Bk', Cp', rfl, hR6, hV6, hO6⟩)
  · have e1 : doW s o = takeW s o.l o.s := by unfold doW; rw [ht]; rfl
    rw [ht] at o0
    have HE := Lib.hid e1
    have HC : Hid (∀ V, WardIs V g m N s → Calls Try.prog 13 #[.pointer (some ⟨g, 0, none⟩), .int .i64 o.l, .int .i64 o.s] V (DoneW V g m (N + 1) (takeW s o.l o.s) (takeB s o.l o.s))) := Lib.hid fun V hV => wTake_any s N HS.out hN g m V hV o.l o.s ho.1 ho.2
    have hD := rTake_any (fun x => F x ∨ x = a1 + 1 + 1) b c Bk Cp s N HS.out W HR'.out HFW.out hN o.l o.s ho.1 ho.2
    have HD := Lib.hid hD
    clear hD ht e1 HS
    generalize hs2 : takeW s o.l o.s = s2 at *
    generalize takeB s o.l o.s = q at *
    clear hs2
    go_upto_region 3 with (go_at_call 20; refine HD.out.mono ?_; rintro e w1 ⟨b', c', Bk', Cp', rfl, hR1, hb1⟩)
    generalize hW3 : World.alloc _ _ = W3
    have hb3 : Below w1.heap.size w1 W3 := by rw [← hW3]; exact (Below.refl _ _).alloc (Nat.le_refl _) _
    have hy : Row W3 w1.heap.size 30 2 (refR b' c' s2) := by rw [← hW3]; exact Row.new _ _ _ _ _ rfl
    clear hW3 u0 u1 o0 o1 o2
    have hq3 := (H0.out.2.2.1.keep hb1).keep hb3
    have hop3 := (H0.out.2.1.keep hb1).keep hb3
    have hR3 := hR1.keep hb3
    have hV3 := (H0.out.2.2.2.1.keep hb1).keep hb3
    have hB3 : Below a1 w W3 := (H0.out.2.2.2.2.trans (hb1.mono (by have := H0.out.1.lt; omega))).trans (hb3.mono (by have := (H0.out.1.keep hb1).lt; omega))
    have hlt : a1 + 1 + 1 < w1.heap.size := (H0.out.2.2.1.keep hb1).lt
    generalize w1.heap.size = Y at *
    have H3 := Lib.hid (And.intro hy (And.intro hop3 (And.intro hq3 (And.intro hR3 (And.intro hV3 hB3)))))
    clear hb1 hb3 hR1 hy hq3 hop3 hR3 hV3 hB3 H0
    have hS : ∀ W, Row W Y 30 2 (refR b' c' s2) → Row W (a1 + 1) 35 3 (opV o) → (fun w' : World => w'.cell? ⟨Y, 0, none⟩ = some (.slice (some ⟨b', 0, none⟩) s2.levels c') ∧ w'.cell? ⟨Y, 1, none⟩ = some (.int .i64 s2.slips) ∧ w'.cell? ⟨a1 + 1, 1, none⟩ = some (.int .i64 o.l) ∧ w'.cell? ⟨a1 + 1, 2, none⟩ = some (.int .i64 o.s)) W := fun W h1 h2 => ⟨(ref_cells h1).1, (ref_cells h1).2, (opV_cells h2).2.1, (opV_cells h2).2.2⟩
    have hst := Lib.hid (hS W3.drew H3.out.1.drew H3.out.2.1.drew)
    have n1 : Y ≠ a1 + 1 + 1 := by omega
    have n2 : a1 + 1 ≠ a1 + 1 + 1 := by omega
    have hTD := HC.out W3.drew (H3.out.2.2.2.2.1.keep (Below.refl _ _).drew)
    have HTD := Lib.hid hTD
    clear hTD HC
    refine wp_region_noPanic ?_
    refine wp_region_held_drew (S := fun w' => w'.cell? ⟨Y, 0, none⟩ = some (.slice (some ⟨b', 0, none⟩) s2.levels c') ∧ w'.cell? ⟨Y, 1, none⟩ = some (.int .i64 s2.slips) ∧ w'.cell? ⟨a1 + 1, 1, none⟩ = some (.int .i64 o.l) ∧ w'.cell? ⟨a1 + 1, 2, none⟩ = some (.int .i64 o.s)) (by kernel_rfl) (hst.out) (fun hHeld => ?_)
    (refine wpAnyH_take (i := 0) (v := ?_) rfl (by kernel_rfl) (by kernel_rfl) (by kernel_rfl) (fun _ _ _ h => h) (Or.inl ⟨by rfl, ?_⟩) hHeld ?_; rotate_left; focus (intro w hSw; (try dsimp only at hSw); go_simp; (try with_reducible rfl)))
    try simp only [Act.put, List.getElem_toArray, List.getElem_cons_succ, List.getElem_cons_zero, List.setIfInBounds_toArray, List.set_cons_zero, List.set_cons_succ]
    (refine wpAnyH_take (i := 1) (v := ?_) rfl (by kernel_rfl) (by kernel_rfl) (by kernel_rfl) (fun _ _ _ h => h) (Or.inl ⟨by rfl, ?_⟩) hHeld ?_; rotate_left; focus (intro w hSw; (try dsimp only at hSw); go_simp; (try with_reducible rfl)))
    try simp only [Act.put, List.getElem_toArray, List.getElem_cons_succ, List.getElem_cons_zero, List.setIfInBounds_toArray, List.set_cons_zero, List.set_cons_succ]
    (refine wpAnyH_take (i := 2) (v := ?_) rfl (by kernel_rfl) (by kernel_rfl) (by kernel_rfl) (fun _ _ _ h => h) (Or.inl ⟨by rfl, ?_⟩) hHeld ?_; rotate_left; focus (intro w hSw; (try dsimp only at hSw); go_simp; (try with_reducible rfl)))
    try simp only [Act.put, List.getElem_toArray, List.getElem_cons_succ, List.getElem_cons_zero, List.setIfInBounds_toArray, List.set_cons_zero, List.set_cons_succ]
    (refine wpAnyH_take (i := 3) (v := ?_) rfl (by kernel_rfl) (by kernel_rfl) (by kernel_rfl) (fun _ _ _ h => h) (Or.inl ⟨by rfl, ?_⟩) hHeld ?_; rotate_left; focus (intro w hSw; (try dsimp only at hSw); go_simp; (try with_reducible rfl)))
    try simp only [Act.put, List.getElem_toArray, List.getElem_cons_succ, List.getElem_cons_zero, List.setIfInBounds_toArray, List.set_cons_zero, List.set_cons_succ]
    (refine wpAnyH_take (i := 4) (v := ?_) rfl (by kernel_rfl) (by kernel_rfl) (by kernel_rfl) (fun _ _ _ h => h) (Or.inl ⟨by rfl, ?_⟩) hHeld ?_; rotate_left; focus (intro w hSw; (try dsimp only at hSw); go_simp; (try with_reducible rfl)))
    try simp only [Act.put, List.getElem_toArray, List.getElem_cons_succ, List.getElem_cons_zero, List.setIfInBounds_toArray, List.set_cons_zero, List.set_cons_succ]
    (refine wpAnyH_take (i := 5) (v := ?_) rfl (by kernel_rfl) (by kernel_rfl) (by kernel_rfl) (fun _ _ _ h => h) (Or.inl ⟨by rfl, ?_⟩) hHeld ?_; rotate_left; focus (intro w hSw; (try dsimp only at hSw); go_simp; (try with_reducible rfl)))
    try simp only [Act.put, List.getElem_toArray, List.getElem_cons_succ, List.getElem_cons_zero, List.setIfInBounds_toArray, List.set_cons_zero, List.set_cons_succ]
    (refine wpAnyH_take (i := 7) (v := ?_) rfl (by kernel_rfl) (by kernel_rfl) (by kernel_rfl) (fun _ _ _ h => h) (Or.inl ⟨by rfl, ?_⟩) hHeld ?_; rotate_left; focus (intro w hSw; (try dsimp only at hSw); go_simp; (try with_reducible rfl)))
    try simp only [Act.put, List.getElem_toArray, List.getElem_cons_succ, List.getElem_cons_zero, List.setIfInBounds_toArray, List.set_cons_zero, List.set_cons_succ]
    (refine wpAnyH_ready (rs := [6]) (by kernel_rfl) (by simp) ?_; refine AllReadyH.cons rfl (fun K hK => ?_) AllReadyH.nil; go_simp; (go_at_call 13; refine HTD.out.mono ?_; rintro e w5 ⟨rfl, hm5, ho5⟩; have A5 := Lib.hid (And.intro (H3.out.1.drew.only ho5 (by have := HGM.out; rintro (e | e) <;> omega)) (And.intro (H3.out.2.1.drew.only ho5 (by have := HGM.out; rintro (e | e) <;> omega)) (And.intro (H3.out.2.2.1.drew.only ho5 (by have := HGM.out; rintro (e | e) <;> omega)) (And.intro hm5 ho5)))); have q0 := A5.out.2.2.1.cell (i := 0) (by omega); have q1 := A5.out.2.2.1.cell (i := 1) (by omega); have q2 := A5.out.2.2.1.frozen 0; have q3 := A5.out.2.2.1.frozen 1; clear hm5 ho5); (try go_wp2_with fail); refine hK.out _ _ ?_ (fun hHeld' => ?_); (focus (first | exact hS _ A5.out.1 A5.out.2.1 | exact hS _ ((A5.out.1.far n1 _).far n1 _) ((A5.out.2.1.far n2 _).far n2 _))); clear hK K; replace hHeld := hHeld'; clear hHeld')
    try simp only [Act.put, List.getElem_toArray, List.getElem_cons_succ, List.getElem_cons_zero, List.setIfInBounds_toArray, List.set_cons_zero, List.set_cons_succ]
    (refine wpAnyH_take (i := 8) (v := ?_) rfl (by kernel_rfl) (by kernel_rfl) (by kernel_rfl) (fun _ _ _ h => h) (Or.inl ⟨by rfl, ?_⟩) hHeld ?_; rotate_left; focus (intro w hSw; (try dsimp only at hSw); go_simp; (try with_reducible rfl)))
    try simp only [Act.put, List.getElem_toArray, List.getElem_cons_succ, List.getElem_cons_zero, List.setIfInBounds_toArray, List.set_cons_zero, List.set_cons_succ]
    (refine wpAnyH_ready (rs := [9]) (by kernel_rfl) (by simp) ?_; refine AllReadyH.cons rfl (fun K hK => ?_) AllReadyH.nil; go_simp; skip; (try go_wp2_with fail); refine hK.out _ _ ?_ (fun hHeld' => ?_); (focus (first | exact hS _ A5.out.1 A5.out.2.1 | exact hS _ ((A5.out.1.far n1 _).far n1 _) ((A5.out.2.1.far n2 _).far n2 _))); clear hK K; replace hHeld := hHeld'; clear hHeld')
    try simp only [Act.put, List.getElem_toArray, List.getElem_cons_succ, List.getElem_cons_zero, List.setIfInBounds_toArray, List.set_cons_zero, List.set_cons_succ]
    (refine wpAnyH_take (i := 10) (v := ?_) rfl (by kernel_rfl) (by kernel_rfl) (by kernel_rfl) (fun _ _ _ h => h) (Or.inl ⟨by rfl, ?_⟩) hHeld ?_; rotate_left; focus (intro w hSw; (try dsimp only at hSw); go_simp; (try with_reducible rfl)))
    try simp only [Act.put, List.getElem_toArray, List.getElem_cons_succ, List.getElem_cons_zero, List.setIfInBounds_toArray, List.set_cons_zero, List.set_cons_succ]
    refine wpAnyH_done (by kernel_rfl) ?_ _
    refine NoPanic.normal ?_
    clear q0 q1 q2 q3 hS hst HTD HD
    go_wp2_with fail
    have ho6 : Only (fun x => x = a1 + 1 + 1) w5 ((w5.setCell ⟨a1 + 1 + 1, 0, none⟩ (.slice (some ⟨b', 0, none⟩) s2.levels c')).setCell ⟨a1 + 1 + 1, 1, none⟩ (.int .i64 s2.slips)) := by
      refine Only.setCell (Only.setCell (Only.refl _ w5) ?_ _) ?_ _
      all_goals rfl
    have hq6 := ((A5.out.2.2.1.set_ 0 (.slice (some ⟨b', 0, none⟩) s2.levels c')).set_ 1 (.int .i64 s2.slips)).congr (f' := refR b' c' s2) fun j hj => by
      match j, hj with
      | 0, _ => rfl
      | 1, _ => rfl
    have hR6 : RefIs F ((w5.setCell ⟨a1 + 1 + 1, 0, none⟩ (.slice (some ⟨b', 0, none⟩) s2.levels c')).setCell ⟨a1 + 1 + 1, 1, none⟩ (.int .i64 s2.slips)) b' Bk' Cp' s2 :=
      ((H3.out.2.2.2.1.keep (Below.refl _ _).drew).only (A5.out.2.2.2.2.mono fun x _ e => Or.inl (HFG.out x e)) |>.only (ho6.mono fun _ _ e => Or.inr e)).weak fun _ e => Or.inl e
    have hV6 : WardIs ((w5.setCell ⟨a1 + 1 + 1, 0, none⟩ (.slice (some ⟨b', 0, none⟩) s2.levels c')).setCell ⟨a1 + 1 + 1, 1, none⟩ (.int .i64 s2.slips)) g m (N + 1) s2 := A5.out.2.2.2.1.only ho6 (fun e => by have e' : g = a1 + 1 + 1 := e; have := HGM.out; omega) (fun e => by have e' : m = a1 + 1 + 1 := e; have := HGM.out; omega)
    have hO6 : Only (Two g m) w ((w5.setCell ⟨a1 + 1 + 1, 0, none⟩ (.slice (some ⟨b', 0, none⟩) s2.levels c')).setCell ⟨a1 + 1 + 1, 1, none⟩ (.int .i64 s2.slips)) := by
      have q1 : Only (Two g m) w w5 := (only_below (by rw [HZ.out]; exact H3.out.2.2.2.2.2.drew) _).trans A5.out.2.2.2.2
      refine ⟨q1.1.trans ho6.1, fun i hi hn => (ho6.2 i (Nat.lt_of_lt_of_le hi q1.size) (fun e => by have e' : i = a1 + 1 + 1 := e; rw [HZ.out] at hi; omega)).trans (q1.2 i hi hn)⟩
    exact bodyPost_ret (results_row_tmp (p := 6) (u := 7) (ty := 30) (by kernel_rfl) _ _ (a1 + 1 + 1) 30 (rowOf 2 (refR b' c' s2)) (0, 0) _ rfl hq6 Try.underlying30 rfl (by kernel_rfl)) rfl
      (by rw [HE.out]; exact ⟨b', c', Bk', Cp', rfl, hR6, hV6, hO6⟩)
end
end Go.Proofs.Ytlldhkcimlmaoaa
