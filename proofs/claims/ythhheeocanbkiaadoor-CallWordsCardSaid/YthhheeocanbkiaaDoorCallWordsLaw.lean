/- The walk of law CallWords. -/
import Derived.Test.YthhheeocanbkiaaDoorCallLives
import Derived.Deep.RegionHeld3
namespace Go.Proofs.YthhheeocanbkiaaDoor
set_option linter.unusedSimpArgs false
open Go.ChangeShapes Go.WideShapes Go.ChangeAt Go.RowKit
theorem one_new (op l key pa pb hd r : Int) (t : TypeId) (w : World) : ∀ W, w.alloc (.cells (callC op l key pa pb hd r) t) = W → Below w.heap.size w W ∧ CallIs W w.heap.size op l key pa pb hd r := by
  rintro W rfl
  exact ⟨(Below.refl _ _).alloc (Nat.le_refl _) _, callIs_new op l key pa pb hd r t w⟩
theorem opN_succ {s : List UInt8} {k : Nat} {b : Bool} (h : (wordsL.getD k [] == s) = b) : opN s (k + 1) = (bif b then (k : Int) else opN s k) ∧ isW s (k + 1) = (bif b then true else isW s k) := by
  subst h
  exact ⟨rfl, rfl⟩
set_option maxRecDepth 100000 in
set_option maxHeartbeats 8000000 in
theorem callWords_walk' (op l key pa pb hd r : Int) (s : List UInt8) (bop : -9223372036854775808 ≤ op ∧ op ≤ 9223372036854775807) (w : World) (ht : TabW w) :
    Calls Tryd.prog 3 #[(.agg #[.int .i64 op, .int .i64 l, .int .i64 key, .int .u64 pa, .int .u64 pb, .int .u64 hd, .int .i64 r]), .string (sB s)] w fun t w' => t = .returned (.bool true) ∧ Below w.heap.size w w' := by
  have HT := Lib.hid ht; clear ht
  have C0 := Lib.hid (fun W hW => lives9_any W hW)
  by_cases hlong : 100 < (sB s).size
  · generalize sB s = S at *
    have t1 : (100 : Int) < ((S.size : Nat) : Int) := by omega
    clear hlong
    go_enter Tryd.func3, Tryd.ntmps3
    go_upto_region 1 with fail
    generalize hW : World.alloc _ _ = W
    obtain ⟨hB, hcl⟩ := one_new op l key pa pb hd r _ w W hW
    have hT := HT.out.below hB
    clear hW HT hcl
    go_wp2_with fail
    refine (C0.out _ hT).mono ?_; rintro t w1 ⟨rfl, hb1⟩
    go_wp2_with fail
    go_ret
    exact ⟨rfl, hB.trans (hb1.mono hB.size)⟩
  have t1 : ¬ (100 : Int) < (((sB s).size : Nat) : Int) := by omega
  clear hlong
  have C1 := Lib.hid (fun W => kMay_any op l key pa pb hd r W)
  have C2 := Lib.hid (fun W => r9May_any op l key pa pb hd r W)
  have C3 := Lib.hid (fun W => kWord_any op W)
  have C4 := Lib.hid (fun W => r9Word_any op W)
  have C5 := Lib.hid (fun W => kLooks_any op W)
  have C6 := Lib.hid (fun W => r9Looks_any op W)
  have C7 := Lib.hid (fun W => kPart_any op W)
  have C8 := Lib.hid (fun W => r9Part_any op bop W)
  have C9 := Lib.hid (fun W => kOp_any s W)
  have CW := Lib.hid (fun (c : Int) W => r9Word_any c W)
  have HL := Lib.hid (fun k => show ((sB (wordsL.getD k [])).toList == (sB s).toList) = (wordsL.getD k [] == s) by rw [sB_list, sB_list])
  clear bop
  generalize mayC op l r = M at *
  generalize sB (wordL op) = sw at *
  generalize looksB op = Lk at *
  generalize partN op = Pt at *
  generalize sB s = S at *
  have hM : (M == M) = true := by simp
  have hsw : (sw.toList == sw.toList) = true := by simp
  have hLk : (Lk == Lk) = true := by simp
  have hPt : (Pt == Pt) = true := by simp
  have HX := Lib.hid (show _ ∧ _ ∧ _ ∧ _ from ⟨hM, hsw, hLk, hPt⟩)
  clear hM hsw hLk hPt
  go_enter Tryd.func3, Tryd.ntmps3
  go_upto_region 1 with fail
  generalize hW : World.alloc _ _ = W
  obtain ⟨hB, hcl⟩ := one_new op l key pa pb hd r _ w W hW
  clear hW
  generalize hz : w.heap.size = a1 at *
  have HZ := Lib.hid hz; clear hz
  have HB := Lib.hid hB; have HC := Lib.hid hcl
  clear hB hcl
  go_wp2_with fail
  go_loopw [5, 6, 7] (fun n is i wr => ∃ k : Nat, n = .int .i64 (opN s k) ∧ is = .bool (isW s k) ∧ i = .int .i64 k ∧ k ≤ 13 ∧ Below W.heap.size W wr) (fun _ _ i _ => 13 - (intOf i).toNat)
  case atStart => exact ⟨0, rfl, rfl, rfl, by omega, Below.refl _ _⟩
  case round =>
    obtain ⟨k, rfl, rfl, rfl, hk, hb⟩ := hrel
    by_cases hlt : k < 13
    · have q1 : (k : Int) < 13 := by omega
      have HLk := Lib.hid (HL.out k)
      have CWk := Lib.hid (fun W => (CW.out k W))
      rw [wordL_nat hlt] at CWk
      have HS := Lib.hid (fun b => @opN_succ s k b)
      generalize sB (wordsL.getD k []) = q at *
      generalize opN s k = nn at *
      generalize isW s k = ii at *
      cases hb2 : (wordsL.getD k [] == s)
      · have hc := HLk.out
        rw [hb2] at hc
        have HS2 := Lib.hid (HS.out _ hb2)
        clear HLk HS hb2
        go_wp2_with (with_reducible refine (CWk.out _).mono ?_; rintro t w2 ⟨rfl, hb3⟩)
        go_roundw
        case rel => exact ⟨k + 1, by rw [HS2.out.1]; rfl, by rw [HS2.out.2]; rfl, by go_num, by omega, hb.trans (hb3.mono hb.size)⟩
        case measure => simp [intOf]; omega
      · have hc := HLk.out
        rw [hb2] at hc
        have HS2 := Lib.hid (HS.out _ hb2)
        clear HLk HS hb2
        go_wp2_with (with_reducible refine (CWk.out _).mono ?_; rintro t w2 ⟨rfl, hb3⟩)
        go_roundw
        case rel => exact ⟨k + 1, by rw [HS2.out.1]; rfl, by rw [HS2.out.2]; rfl, by go_num, by omega, hb.trans (hb3.mono hb.size)⟩
        case measure => simp [intOf]; omega
    · obtain rfl : k = 13 := by omega
      clear HL CW
      generalize opN s 13 = nn at *
      generalize isW s 13 = ii at *
      go_upto_region 11 with (with_reducible refine (C9.out _).mono ?_; rintro t w2 ⟨rfl, hb3⟩)
      have hb4 := hb.trans (hb3.mono hb.size)
      have hB := below_on HB.out (Nat.le_of_eq HZ.out.symm) hb4
      have hcl := HC.out.keep hb4
      have hT := HT.out.below (by rw [HZ.out]; exact hB)
      have hst : ∀ w' : World, Below a1 w w' → TabW w' → CallIs w' a1 op l key pa pb hd r → Below a1 w w' ∧ TabW w' ∧ CallIs w' a1 op l key pa pb hd r ∧ w'.cell? ⟨a1, 0, none⟩ = some (.int .i64 op) ∧ w'.cell? ⟨a1, 1, none⟩ = some (.int .i64 l) ∧ w'.cell? ⟨a1, 2, none⟩ = some (.int .i64 key) ∧ w'.cell? ⟨a1, 3, none⟩ = some (.int .u64 pa) ∧ w'.cell? ⟨a1, 4, none⟩ = some (.int .u64 pb) ∧ w'.cell? ⟨a1, 5, none⟩ = some (.int .u64 hd) ∧ w'.cell? ⟨a1, 6, none⟩ = some (.int .i64 r) := fun w' h1 h2 h3 =>
        ⟨h1, h2, h3, h3.c0, h3.c1, h3.c2, h3.c3, h3.c4, h3.c5, h3.c6⟩
      have hkeep : ∀ w1 w2 : World, Below w1.heap.size w1 w2 → (fun w' : World => Below a1 w w' ∧ TabW w' ∧ CallIs w' a1 op l key pa pb hd r ∧ w'.cell? ⟨a1, 0, none⟩ = some (.int .i64 op) ∧ w'.cell? ⟨a1, 1, none⟩ = some (.int .i64 l) ∧ w'.cell? ⟨a1, 2, none⟩ = some (.int .i64 key) ∧ w'.cell? ⟨a1, 3, none⟩ = some (.int .u64 pa) ∧ w'.cell? ⟨a1, 4, none⟩ = some (.int .u64 pb) ∧ w'.cell? ⟨a1, 5, none⟩ = some (.int .u64 hd) ∧ w'.cell? ⟨a1, 6, none⟩ = some (.int .i64 r)) w1 → (fun w' : World => Below a1 w w' ∧ TabW w' ∧ CallIs w' a1 op l key pa pb hd r ∧ w'.cell? ⟨a1, 0, none⟩ = some (.int .i64 op) ∧ w'.cell? ⟨a1, 1, none⟩ = some (.int .i64 l) ∧ w'.cell? ⟨a1, 2, none⟩ = some (.int .i64 key) ∧ w'.cell? ⟨a1, 3, none⟩ = some (.int .u64 pa) ∧ w'.cell? ⟨a1, 4, none⟩ = some (.int .u64 pb) ∧ w'.cell? ⟨a1, 5, none⟩ = some (.int .u64 hd) ∧ w'.cell? ⟨a1, 6, none⟩ = some (.int .i64 r)) w2 := fun w1 w2 hb h =>
        hst w2 (below_on h.1 (Nat.le_of_eq HZ.out.symm) hb) (h.2.1.below hb) (h.2.2.1.keep hb)
      have HST := Lib.hid (hst w2.drew hB.drew hT ⟨hcl.lt, hcl.c0, hcl.c1, hcl.c2, hcl.c3, hcl.c4, hcl.c5, hcl.c6⟩)
      have HBB : Hid (∀ w', (fun w' : World => Below a1 w w' ∧ TabW w' ∧ CallIs w' a1 op l key pa pb hd r ∧ w'.cell? ⟨a1, 0, none⟩ = some (.int .i64 op) ∧ w'.cell? ⟨a1, 1, none⟩ = some (.int .i64 l) ∧ w'.cell? ⟨a1, 2, none⟩ = some (.int .i64 key) ∧ w'.cell? ⟨a1, 3, none⟩ = some (.int .u64 pa) ∧ w'.cell? ⟨a1, 4, none⟩ = some (.int .u64 pb) ∧ w'.cell? ⟨a1, 5, none⟩ = some (.int .u64 hd) ∧ w'.cell? ⟨a1, 6, none⟩ = some (.int .i64 r)) w' → Below a1 w w') := Lib.hid (fun w' h => h.1)
      have hM := HX.out.1
      have hsw := HX.out.2.1
      have hLk := HX.out.2.2.1
      have hPt := HX.out.2.2.2
      have hnn : (nn == nn) = true := by simp
      have hii : (ii == ii) = true := by simp
      clear hB hcl hst hT hb hb3 hb4 HB HC HT
      refine wp_region_noPanic ?_
      refine wp_region_held_drew (S := fun w' => Below a1 w w' ∧ TabW w' ∧ CallIs w' a1 op l key pa pb hd r ∧ w'.cell? ⟨a1, 0, none⟩ = some (.int .i64 op) ∧ w'.cell? ⟨a1, 1, none⟩ = some (.int .i64 l) ∧ w'.cell? ⟨a1, 2, none⟩ = some (.int .i64 key) ∧ w'.cell? ⟨a1, 3, none⟩ = some (.int .u64 pa) ∧ w'.cell? ⟨a1, 4, none⟩ = some (.int .u64 pb) ∧ w'.cell? ⟨a1, 5, none⟩ = some (.int .u64 hd) ∧ w'.cell? ⟨a1, 6, none⟩ = some (.int .i64 r)) (by kernel_rfl) (HST.out) (fun hHeld => ?_)
      (refine wpAnyH_take (i := 0) (v := ?_) rfl (by kernel_rfl) (by kernel_rfl) (by kernel_rfl) (fun _ _ _ h => h) (Or.inl ⟨by rfl, ?_⟩) hHeld ?_; rotate_left; focus (intro w hSw; (try dsimp only at hSw); go_simp; (try with_reducible rfl)))
      try simp only [Act.put, List.getElem_toArray, List.getElem_cons_succ, List.getElem_cons_zero, List.setIfInBounds_toArray, List.set_cons_zero, List.set_cons_succ]
      (refine wpAnyH_take (i := 2) (v := ?_) rfl (by kernel_rfl) (by kernel_rfl) (by kernel_rfl) (fun _ _ _ h => h) (Or.inl ⟨by rfl, ?_⟩) hHeld ?_; rotate_left; focus (intro w hSw; (try dsimp only at hSw); go_simp; (try with_reducible rfl)))
      try simp only [Act.put, List.getElem_toArray, List.getElem_cons_succ, List.getElem_cons_zero, List.setIfInBounds_toArray, List.set_cons_zero, List.set_cons_succ]
      (refine wpAnyH_ready (rs := [1]) (by kernel_rfl) (by simp) ?_; refine AllReadyH.cons rfl (fun K hK => ?_) AllReadyH.nil; go_simp; (first | (go_at_call 8; refine (C1.out _).mono ?_; rintro t w' ⟨rfl, hb⟩) | (go_at_call 9; refine (C2.out _).mono ?_; rintro t w' ⟨rfl, hb⟩) | (go_at_call 10; refine (C3.out _).mono ?_; rintro t w' ⟨rfl, hb⟩) | (go_at_call 6; refine (C4.out _).mono ?_; rintro t w' ⟨rfl, hb⟩) | (go_at_call 11; refine (C5.out _).mono ?_; rintro t w' ⟨rfl, rfl⟩) | (go_at_call 12; refine (C6.out _).mono ?_; rintro t w' ⟨rfl, rfl⟩) | (go_at_call 13; refine (C7.out _).mono ?_; rintro t w' ⟨rfl, rfl⟩) | (go_at_call 14; refine (C8.out _).mono ?_; rintro t w' ⟨rfl, rfl⟩) | (go_at_call 5; refine (C0.out _ hHeld.2.1).mono ?_; rintro t w' ⟨rfl, hb⟩)); (try go_wp2_with fail); refine hK.out _ _ ?_ (fun hHeld' => ?_); (focus (first | exact hkeep _ _ hb hHeld | exact hHeld)); clear hK K; replace hHeld := hHeld'; clear hHeld')
      try simp only [Act.put, List.getElem_toArray, List.getElem_cons_succ, List.getElem_cons_zero, List.setIfInBounds_toArray, List.set_cons_zero, List.set_cons_succ]
      (refine wpAnyH_ready (rs := [3]) (by kernel_rfl) (by simp) ?_; refine AllReadyH.cons rfl (fun K hK => ?_) AllReadyH.nil; go_simp; (first | (go_at_call 8; refine (C1.out _).mono ?_; rintro t w' ⟨rfl, hb⟩) | (go_at_call 9; refine (C2.out _).mono ?_; rintro t w' ⟨rfl, hb⟩) | (go_at_call 10; refine (C3.out _).mono ?_; rintro t w' ⟨rfl, hb⟩) | (go_at_call 6; refine (C4.out _).mono ?_; rintro t w' ⟨rfl, hb⟩) | (go_at_call 11; refine (C5.out _).mono ?_; rintro t w' ⟨rfl, rfl⟩) | (go_at_call 12; refine (C6.out _).mono ?_; rintro t w' ⟨rfl, rfl⟩) | (go_at_call 13; refine (C7.out _).mono ?_; rintro t w' ⟨rfl, rfl⟩) | (go_at_call 14; refine (C8.out _).mono ?_; rintro t w' ⟨rfl, rfl⟩) | (go_at_call 5; refine (C0.out _ hHeld.2.1).mono ?_; rintro t w' ⟨rfl, hb⟩)); (try go_wp2_with fail); refine hK.out _ _ ?_ (fun hHeld' => ?_); (focus (first | exact hkeep _ _ hb hHeld | exact hHeld)); clear hK K; replace hHeld := hHeld'; clear hHeld')
      try simp only [Act.put, List.getElem_toArray, List.getElem_cons_succ, List.getElem_cons_zero, List.setIfInBounds_toArray, List.set_cons_zero, List.set_cons_succ]
      (refine wpAnyH_take (i := 4) (v := ?_) rfl (by kernel_rfl) (by kernel_rfl) (by kernel_rfl) (fun _ _ _ h => h) (Or.inl ⟨by rfl, ?_⟩) hHeld ?_; rotate_left; focus (intro w hSw; (try dsimp only at hSw); go_simp; (try with_reducible rfl)))
      try simp only [Act.put, List.getElem_toArray, List.getElem_cons_succ, List.getElem_cons_zero, List.setIfInBounds_toArray, List.set_cons_zero, List.set_cons_succ]
      (refine wpAnyH_take (i := 5) (v := ?_) rfl (by kernel_rfl) (by kernel_rfl) (by kernel_rfl) (fun _ _ _ h => h) (Or.inl ⟨by rfl, ?_⟩) hHeld ?_; rotate_left; focus (intro w hSw; (try dsimp only at hSw); go_simp; (try with_reducible rfl)))
      try simp only [Act.put, List.getElem_toArray, List.getElem_cons_succ, List.getElem_cons_zero, List.setIfInBounds_toArray, List.set_cons_zero, List.set_cons_succ]
      first | (refine wpAnyH_take (i := 6) rfl (by kernel_rfl) (by kernel_rfl) (by kernel_rfl) (fun _ _ _ h => h) (Or.inr ⟨by rfl, rfl⟩) hHeld ?_) | (refine wpAnyH_take (i := 6) (v := ?_) rfl (by kernel_rfl) (by kernel_rfl) (by kernel_rfl) (fun _ _ _ h => h) (Or.inl ⟨by rfl, ?_⟩) hHeld ?_; rotate_left; focus (intro w hSw; (try dsimp only at hSw); go_simp; (try with_reducible rfl)))
      try simp only [Act.put, List.getElem_toArray, List.getElem_cons_succ, List.getElem_cons_zero, List.setIfInBounds_toArray, List.set_cons_zero, List.set_cons_succ]
      first | (refine wpAnyH_take (i := 7) rfl (by kernel_rfl) (by kernel_rfl) (by kernel_rfl) (fun _ _ _ h => h) (Or.inr ⟨by rfl, rfl⟩) hHeld ?_) | (refine wpAnyH_take (i := 7) (v := ?_) rfl (by kernel_rfl) (by kernel_rfl) (by kernel_rfl) (fun _ _ _ h => h) (Or.inl ⟨by rfl, ?_⟩) hHeld ?_; rotate_left; focus (intro w hSw; (try dsimp only at hSw); go_simp; (try with_reducible rfl)))
      try simp only [Act.put, List.getElem_toArray, List.getElem_cons_succ, List.getElem_cons_zero, List.setIfInBounds_toArray, List.set_cons_zero, List.set_cons_succ]
      first | (refine wpAnyH_take (i := 9) rfl (by kernel_rfl) (by kernel_rfl) (by kernel_rfl) (fun _ _ _ h => h) (Or.inr ⟨by rfl, rfl⟩) hHeld ?_) | (refine wpAnyH_take (i := 9) (v := ?_) rfl (by kernel_rfl) (by kernel_rfl) (by kernel_rfl) (fun _ _ _ h => h) (Or.inl ⟨by rfl, ?_⟩) hHeld ?_; rotate_left; focus (intro w hSw; (try dsimp only at hSw); go_simp; (try with_reducible rfl)))
      try simp only [Act.put, List.getElem_toArray, List.getElem_cons_succ, List.getElem_cons_zero, List.setIfInBounds_toArray, List.set_cons_zero, List.set_cons_succ]
      first | (refine wpAnyH_take (i := 10) rfl (by kernel_rfl) (by kernel_rfl) (by kernel_rfl) (fun _ _ _ h => h) (Or.inr ⟨by rfl, rfl⟩) hHeld ?_) | (refine wpAnyH_take (i := 10) (v := ?_) rfl (by kernel_rfl) (by kernel_rfl) (by kernel_rfl) (fun _ _ _ h => h) (Or.inl ⟨by rfl, ?_⟩) hHeld ?_; rotate_left; focus (intro w hSw; (try dsimp only at hSw); go_simp; (try with_reducible rfl)))
      try simp only [Act.put, List.getElem_toArray, List.getElem_cons_succ, List.getElem_cons_zero, List.setIfInBounds_toArray, List.set_cons_zero, List.set_cons_succ]
      first | (refine wpAnyH_take (i := 8) rfl (by kernel_rfl) (by kernel_rfl) (by kernel_rfl) (fun _ _ _ h => h) (Or.inr ⟨by rfl, rfl⟩) hHeld ?_) | (refine wpAnyH_ready (rs := [8]) (by kernel_rfl) (by simp) ?_; refine AllReadyH.cons rfl (fun K hK => ?_) AllReadyH.nil; go_simp; (first | (go_at_call 8; refine (C1.out _).mono ?_; rintro t w' ⟨rfl, hb⟩) | (go_at_call 9; refine (C2.out _).mono ?_; rintro t w' ⟨rfl, hb⟩) | (go_at_call 10; refine (C3.out _).mono ?_; rintro t w' ⟨rfl, hb⟩) | (go_at_call 6; refine (C4.out _).mono ?_; rintro t w' ⟨rfl, hb⟩) | (go_at_call 11; refine (C5.out _).mono ?_; rintro t w' ⟨rfl, rfl⟩) | (go_at_call 12; refine (C6.out _).mono ?_; rintro t w' ⟨rfl, rfl⟩) | (go_at_call 13; refine (C7.out _).mono ?_; rintro t w' ⟨rfl, rfl⟩) | (go_at_call 14; refine (C8.out _).mono ?_; rintro t w' ⟨rfl, rfl⟩) | (go_at_call 5; refine (C0.out _ hHeld.2.1).mono ?_; rintro t w' ⟨rfl, hb⟩)); (try go_wp2_with fail); refine hK.out _ _ ?_ (fun hHeld' => ?_); (focus (first | exact hkeep _ _ hb hHeld | exact hHeld)); clear hK K; replace hHeld := hHeld'; clear hHeld')
      try simp only [Act.put, List.getElem_toArray, List.getElem_cons_succ, List.getElem_cons_zero, List.setIfInBounds_toArray, List.set_cons_zero, List.set_cons_succ]
      first | (refine wpAnyH_take (i := 11) rfl (by kernel_rfl) (by kernel_rfl) (by kernel_rfl) (fun _ _ _ h => h) (Or.inr ⟨by rfl, rfl⟩) hHeld ?_) | (refine wpAnyH_ready (rs := [11]) (by kernel_rfl) (by simp) ?_; refine AllReadyH.cons rfl (fun K hK => ?_) AllReadyH.nil; go_simp; (first | (go_at_call 8; refine (C1.out _).mono ?_; rintro t w' ⟨rfl, hb⟩) | (go_at_call 9; refine (C2.out _).mono ?_; rintro t w' ⟨rfl, hb⟩) | (go_at_call 10; refine (C3.out _).mono ?_; rintro t w' ⟨rfl, hb⟩) | (go_at_call 6; refine (C4.out _).mono ?_; rintro t w' ⟨rfl, hb⟩) | (go_at_call 11; refine (C5.out _).mono ?_; rintro t w' ⟨rfl, rfl⟩) | (go_at_call 12; refine (C6.out _).mono ?_; rintro t w' ⟨rfl, rfl⟩) | (go_at_call 13; refine (C7.out _).mono ?_; rintro t w' ⟨rfl, rfl⟩) | (go_at_call 14; refine (C8.out _).mono ?_; rintro t w' ⟨rfl, rfl⟩) | (go_at_call 5; refine (C0.out _ hHeld.2.1).mono ?_; rintro t w' ⟨rfl, hb⟩)); (try go_wp2_with fail); refine hK.out _ _ ?_ (fun hHeld' => ?_); (focus (first | exact hkeep _ _ hb hHeld | exact hHeld)); clear hK K; replace hHeld := hHeld'; clear hHeld')
      try simp only [Act.put, List.getElem_toArray, List.getElem_cons_succ, List.getElem_cons_zero, List.setIfInBounds_toArray, List.set_cons_zero, List.set_cons_succ]
      first | (refine wpAnyH_take (i := 12) rfl (by kernel_rfl) (by kernel_rfl) (by kernel_rfl) (fun _ _ _ h => h) (Or.inr ⟨by rfl, rfl⟩) hHeld ?_) | (refine wpAnyH_take (i := 12) (v := ?_) rfl (by kernel_rfl) (by kernel_rfl) (by kernel_rfl) (fun _ _ _ h => h) (Or.inl ⟨by rfl, ?_⟩) hHeld ?_; rotate_left; focus (intro w hSw; (try dsimp only at hSw); go_simp; (try with_reducible rfl)))
      try simp only [Act.put, List.getElem_toArray, List.getElem_cons_succ, List.getElem_cons_zero, List.setIfInBounds_toArray, List.set_cons_zero, List.set_cons_succ]
      (refine wpAnyH_take (i := 13) (v := ?_) rfl (by kernel_rfl) (by kernel_rfl) (by kernel_rfl) (fun _ _ _ h => h) (Or.inl ⟨by rfl, ?_⟩) hHeld ?_; rotate_left; focus (intro w hSw; (try dsimp only at hSw); go_simp; (try with_reducible rfl)))
      try simp only [Act.put, List.getElem_toArray, List.getElem_cons_succ, List.getElem_cons_zero, List.setIfInBounds_toArray, List.set_cons_zero, List.set_cons_succ]
      (refine wpAnyH_take (i := 14) (v := ?_) rfl (by kernel_rfl) (by kernel_rfl) (by kernel_rfl) (fun _ _ _ h => h) (Or.inl ⟨by rfl, ?_⟩) hHeld ?_; rotate_left; focus (intro w hSw; (try dsimp only at hSw); go_simp; (try with_reducible rfl)))
      try simp only [Act.put, List.getElem_toArray, List.getElem_cons_succ, List.getElem_cons_zero, List.setIfInBounds_toArray, List.set_cons_zero, List.set_cons_succ]
      first | (refine wpAnyH_take (i := 15) rfl (by kernel_rfl) (by kernel_rfl) (by kernel_rfl) (fun _ _ _ h => h) (Or.inr ⟨by rfl, rfl⟩) hHeld ?_) | (refine wpAnyH_take (i := 15) (v := ?_) rfl (by kernel_rfl) (by kernel_rfl) (by kernel_rfl) (fun _ _ _ h => h) (Or.inl ⟨by rfl, ?_⟩) hHeld ?_; rotate_left; focus (intro w hSw; (try dsimp only at hSw); go_simp; (try with_reducible rfl)))
      try simp only [Act.put, List.getElem_toArray, List.getElem_cons_succ, List.getElem_cons_zero, List.setIfInBounds_toArray, List.set_cons_zero, List.set_cons_succ]
      first | (refine wpAnyH_take (i := 16) rfl (by kernel_rfl) (by kernel_rfl) (by kernel_rfl) (fun _ _ _ h => h) (Or.inr ⟨by rfl, rfl⟩) hHeld ?_) | (refine wpAnyH_take (i := 16) (v := ?_) rfl (by kernel_rfl) (by kernel_rfl) (by kernel_rfl) (fun _ _ _ h => h) (Or.inl ⟨by rfl, ?_⟩) hHeld ?_; rotate_left; focus (intro w hSw; (try dsimp only at hSw); go_simp; (try with_reducible rfl)))
      try simp only [Act.put, List.getElem_toArray, List.getElem_cons_succ, List.getElem_cons_zero, List.setIfInBounds_toArray, List.set_cons_zero, List.set_cons_succ]
      first | (refine wpAnyH_take (i := 18) rfl (by kernel_rfl) (by kernel_rfl) (by kernel_rfl) (fun _ _ _ h => h) (Or.inr ⟨by rfl, rfl⟩) hHeld ?_) | (refine wpAnyH_take (i := 18) (v := ?_) rfl (by kernel_rfl) (by kernel_rfl) (by kernel_rfl) (fun _ _ _ h => h) (Or.inl ⟨by rfl, ?_⟩) hHeld ?_; rotate_left; focus (intro w hSw; (try dsimp only at hSw); go_simp; (try with_reducible rfl)))
      try simp only [Act.put, List.getElem_toArray, List.getElem_cons_succ, List.getElem_cons_zero, List.setIfInBounds_toArray, List.set_cons_zero, List.set_cons_succ]
      first | (refine wpAnyH_take (i := 19) rfl (by kernel_rfl) (by kernel_rfl) (by kernel_rfl) (fun _ _ _ h => h) (Or.inr ⟨by rfl, rfl⟩) hHeld ?_) | (refine wpAnyH_take (i := 19) (v := ?_) rfl (by kernel_rfl) (by kernel_rfl) (by kernel_rfl) (fun _ _ _ h => h) (Or.inl ⟨by rfl, ?_⟩) hHeld ?_; rotate_left; focus (intro w hSw; (try dsimp only at hSw); go_simp; (try with_reducible rfl)))
      try simp only [Act.put, List.getElem_toArray, List.getElem_cons_succ, List.getElem_cons_zero, List.setIfInBounds_toArray, List.set_cons_zero, List.set_cons_succ]
      first | (refine wpAnyH_take (i := 17) rfl (by kernel_rfl) (by kernel_rfl) (by kernel_rfl) (fun _ _ _ h => h) (Or.inr ⟨by rfl, rfl⟩) hHeld ?_) | (refine wpAnyH_ready (rs := [17]) (by kernel_rfl) (by simp) ?_; refine AllReadyH.cons rfl (fun K hK => ?_) AllReadyH.nil; go_simp; (first | (go_at_call 8; refine (C1.out _).mono ?_; rintro t w' ⟨rfl, hb⟩) | (go_at_call 9; refine (C2.out _).mono ?_; rintro t w' ⟨rfl, hb⟩) | (go_at_call 10; refine (C3.out _).mono ?_; rintro t w' ⟨rfl, hb⟩) | (go_at_call 6; refine (C4.out _).mono ?_; rintro t w' ⟨rfl, hb⟩) | (go_at_call 11; refine (C5.out _).mono ?_; rintro t w' ⟨rfl, rfl⟩) | (go_at_call 12; refine (C6.out _).mono ?_; rintro t w' ⟨rfl, rfl⟩) | (go_at_call 13; refine (C7.out _).mono ?_; rintro t w' ⟨rfl, rfl⟩) | (go_at_call 14; refine (C8.out _).mono ?_; rintro t w' ⟨rfl, rfl⟩) | (go_at_call 5; refine (C0.out _ hHeld.2.1).mono ?_; rintro t w' ⟨rfl, hb⟩)); (try go_wp2_with fail); refine hK.out _ _ ?_ (fun hHeld' => ?_); (focus (first | exact hkeep _ _ hb hHeld | exact hHeld)); clear hK K; replace hHeld := hHeld'; clear hHeld')
      try simp only [Act.put, List.getElem_toArray, List.getElem_cons_succ, List.getElem_cons_zero, List.setIfInBounds_toArray, List.set_cons_zero, List.set_cons_succ]
      first | (refine wpAnyH_take (i := 20) rfl (by kernel_rfl) (by kernel_rfl) (by kernel_rfl) (fun _ _ _ h => h) (Or.inr ⟨by rfl, rfl⟩) hHeld ?_) | (refine wpAnyH_ready (rs := [20]) (by kernel_rfl) (by simp) ?_; refine AllReadyH.cons rfl (fun K hK => ?_) AllReadyH.nil; go_simp; (first | (go_at_call 8; refine (C1.out _).mono ?_; rintro t w' ⟨rfl, hb⟩) | (go_at_call 9; refine (C2.out _).mono ?_; rintro t w' ⟨rfl, hb⟩) | (go_at_call 10; refine (C3.out _).mono ?_; rintro t w' ⟨rfl, hb⟩) | (go_at_call 6; refine (C4.out _).mono ?_; rintro t w' ⟨rfl, hb⟩) | (go_at_call 11; refine (C5.out _).mono ?_; rintro t w' ⟨rfl, rfl⟩) | (go_at_call 12; refine (C6.out _).mono ?_; rintro t w' ⟨rfl, rfl⟩) | (go_at_call 13; refine (C7.out _).mono ?_; rintro t w' ⟨rfl, rfl⟩) | (go_at_call 14; refine (C8.out _).mono ?_; rintro t w' ⟨rfl, rfl⟩) | (go_at_call 5; refine (C0.out _ hHeld.2.1).mono ?_; rintro t w' ⟨rfl, hb⟩)); (try go_wp2_with fail); refine hK.out _ _ ?_ (fun hHeld' => ?_); (focus (first | exact hkeep _ _ hb hHeld | exact hHeld)); clear hK K; replace hHeld := hHeld'; clear hHeld')
      try simp only [Act.put, List.getElem_toArray, List.getElem_cons_succ, List.getElem_cons_zero, List.setIfInBounds_toArray, List.set_cons_zero, List.set_cons_succ]
      first | (refine wpAnyH_take (i := 21) rfl (by kernel_rfl) (by kernel_rfl) (by kernel_rfl) (fun _ _ _ h => h) (Or.inr ⟨by rfl, rfl⟩) hHeld ?_) | (refine wpAnyH_take (i := 21) (v := ?_) rfl (by kernel_rfl) (by kernel_rfl) (by kernel_rfl) (fun _ _ _ h => h) (Or.inl ⟨by rfl, ?_⟩) hHeld ?_; rotate_left; focus (intro w hSw; (try dsimp only at hSw); go_simp; (try with_reducible rfl)))
      try simp only [Act.put, List.getElem_toArray, List.getElem_cons_succ, List.getElem_cons_zero, List.setIfInBounds_toArray, List.set_cons_zero, List.set_cons_succ]
      (refine wpAnyH_take (i := 22) (v := ?_) rfl (by kernel_rfl) (by kernel_rfl) (by kernel_rfl) (fun _ _ _ h => h) (Or.inl ⟨by rfl, ?_⟩) hHeld ?_; rotate_left; focus (intro w hSw; (try dsimp only at hSw); go_simp; (try with_reducible rfl)))
      try simp only [Act.put, List.getElem_toArray, List.getElem_cons_succ, List.getElem_cons_zero, List.setIfInBounds_toArray, List.set_cons_zero, List.set_cons_succ]
      (refine wpAnyH_take (i := 23) (v := ?_) rfl (by kernel_rfl) (by kernel_rfl) (by kernel_rfl) (fun _ _ _ h => h) (Or.inl ⟨by rfl, ?_⟩) hHeld ?_; rotate_left; focus (intro w hSw; (try dsimp only at hSw); go_simp; (try with_reducible rfl)))
      try simp only [Act.put, List.getElem_toArray, List.getElem_cons_succ, List.getElem_cons_zero, List.setIfInBounds_toArray, List.set_cons_zero, List.set_cons_succ]
      first | (refine wpAnyH_take (i := 24) rfl (by kernel_rfl) (by kernel_rfl) (by kernel_rfl) (fun _ _ _ h => h) (Or.inr ⟨by rfl, rfl⟩) hHeld ?_) | (refine wpAnyH_take (i := 24) (v := ?_) rfl (by kernel_rfl) (by kernel_rfl) (by kernel_rfl) (fun _ _ _ h => h) (Or.inl ⟨by rfl, ?_⟩) hHeld ?_; rotate_left; focus (intro w hSw; (try dsimp only at hSw); go_simp; (try with_reducible rfl)))
      try simp only [Act.put, List.getElem_toArray, List.getElem_cons_succ, List.getElem_cons_zero, List.setIfInBounds_toArray, List.set_cons_zero, List.set_cons_succ]
      first | (refine wpAnyH_take (i := 25) rfl (by kernel_rfl) (by kernel_rfl) (by kernel_rfl) (fun _ _ _ h => h) (Or.inr ⟨by rfl, rfl⟩) hHeld ?_) | (refine wpAnyH_take (i := 25) (v := ?_) rfl (by kernel_rfl) (by kernel_rfl) (by kernel_rfl) (fun _ _ _ h => h) (Or.inl ⟨by rfl, ?_⟩) hHeld ?_; rotate_left; focus (intro w hSw; (try dsimp only at hSw); go_simp; (try with_reducible rfl)))
      try simp only [Act.put, List.getElem_toArray, List.getElem_cons_succ, List.getElem_cons_zero, List.setIfInBounds_toArray, List.set_cons_zero, List.set_cons_succ]
      first | (refine wpAnyH_take (i := 27) rfl (by kernel_rfl) (by kernel_rfl) (by kernel_rfl) (fun _ _ _ h => h) (Or.inr ⟨by rfl, rfl⟩) hHeld ?_) | (refine wpAnyH_take (i := 27) (v := ?_) rfl (by kernel_rfl) (by kernel_rfl) (by kernel_rfl) (fun _ _ _ h => h) (Or.inl ⟨by rfl, ?_⟩) hHeld ?_; rotate_left; focus (intro w hSw; (try dsimp only at hSw); go_simp; (try with_reducible rfl)))
      try simp only [Act.put, List.getElem_toArray, List.getElem_cons_succ, List.getElem_cons_zero, List.setIfInBounds_toArray, List.set_cons_zero, List.set_cons_succ]
      first | (refine wpAnyH_take (i := 28) rfl (by kernel_rfl) (by kernel_rfl) (by kernel_rfl) (fun _ _ _ h => h) (Or.inr ⟨by rfl, rfl⟩) hHeld ?_) | (refine wpAnyH_take (i := 28) (v := ?_) rfl (by kernel_rfl) (by kernel_rfl) (by kernel_rfl) (fun _ _ _ h => h) (Or.inl ⟨by rfl, ?_⟩) hHeld ?_; rotate_left; focus (intro w hSw; (try dsimp only at hSw); go_simp; (try with_reducible rfl)))
      try simp only [Act.put, List.getElem_toArray, List.getElem_cons_succ, List.getElem_cons_zero, List.setIfInBounds_toArray, List.set_cons_zero, List.set_cons_succ]
      first | (refine wpAnyH_take (i := 26) rfl (by kernel_rfl) (by kernel_rfl) (by kernel_rfl) (fun _ _ _ h => h) (Or.inr ⟨by rfl, rfl⟩) hHeld ?_) | (refine wpAnyH_ready (rs := [26]) (by kernel_rfl) (by simp) ?_; refine AllReadyH.cons rfl (fun K hK => ?_) AllReadyH.nil; go_simp; (first | (go_at_call 8; refine (C1.out _).mono ?_; rintro t w' ⟨rfl, hb⟩) | (go_at_call 9; refine (C2.out _).mono ?_; rintro t w' ⟨rfl, hb⟩) | (go_at_call 10; refine (C3.out _).mono ?_; rintro t w' ⟨rfl, hb⟩) | (go_at_call 6; refine (C4.out _).mono ?_; rintro t w' ⟨rfl, hb⟩) | (go_at_call 11; refine (C5.out _).mono ?_; rintro t w' ⟨rfl, rfl⟩) | (go_at_call 12; refine (C6.out _).mono ?_; rintro t w' ⟨rfl, rfl⟩) | (go_at_call 13; refine (C7.out _).mono ?_; rintro t w' ⟨rfl, rfl⟩) | (go_at_call 14; refine (C8.out _).mono ?_; rintro t w' ⟨rfl, rfl⟩) | (go_at_call 5; refine (C0.out _ hHeld.2.1).mono ?_; rintro t w' ⟨rfl, hb⟩)); (try go_wp2_with fail); refine hK.out _ _ ?_ (fun hHeld' => ?_); (focus (first | exact hkeep _ _ hb hHeld | exact hHeld)); clear hK K; replace hHeld := hHeld'; clear hHeld')
      try simp only [Act.put, List.getElem_toArray, List.getElem_cons_succ, List.getElem_cons_zero, List.setIfInBounds_toArray, List.set_cons_zero, List.set_cons_succ]
      first | (refine wpAnyH_take (i := 29) rfl (by kernel_rfl) (by kernel_rfl) (by kernel_rfl) (fun _ _ _ h => h) (Or.inr ⟨by rfl, rfl⟩) hHeld ?_) | (refine wpAnyH_ready (rs := [29]) (by kernel_rfl) (by simp) ?_; refine AllReadyH.cons rfl (fun K hK => ?_) AllReadyH.nil; go_simp; (first | (go_at_call 8; refine (C1.out _).mono ?_; rintro t w' ⟨rfl, hb⟩) | (go_at_call 9; refine (C2.out _).mono ?_; rintro t w' ⟨rfl, hb⟩) | (go_at_call 10; refine (C3.out _).mono ?_; rintro t w' ⟨rfl, hb⟩) | (go_at_call 6; refine (C4.out _).mono ?_; rintro t w' ⟨rfl, hb⟩) | (go_at_call 11; refine (C5.out _).mono ?_; rintro t w' ⟨rfl, rfl⟩) | (go_at_call 12; refine (C6.out _).mono ?_; rintro t w' ⟨rfl, rfl⟩) | (go_at_call 13; refine (C7.out _).mono ?_; rintro t w' ⟨rfl, rfl⟩) | (go_at_call 14; refine (C8.out _).mono ?_; rintro t w' ⟨rfl, rfl⟩) | (go_at_call 5; refine (C0.out _ hHeld.2.1).mono ?_; rintro t w' ⟨rfl, hb⟩)); (try go_wp2_with fail); refine hK.out _ _ ?_ (fun hHeld' => ?_); (focus (first | exact hkeep _ _ hb hHeld | exact hHeld)); clear hK K; replace hHeld := hHeld'; clear hHeld')
      try simp only [Act.put, List.getElem_toArray, List.getElem_cons_succ, List.getElem_cons_zero, List.setIfInBounds_toArray, List.set_cons_zero, List.set_cons_succ]
      first | (refine wpAnyH_take (i := 30) rfl (by kernel_rfl) (by kernel_rfl) (by kernel_rfl) (fun _ _ _ h => h) (Or.inr ⟨by rfl, rfl⟩) hHeld ?_) | (refine wpAnyH_take (i := 30) (v := ?_) rfl (by kernel_rfl) (by kernel_rfl) (by kernel_rfl) (fun _ _ _ h => h) (Or.inl ⟨by rfl, ?_⟩) hHeld ?_; rotate_left; focus (intro w hSw; (try dsimp only at hSw); go_simp; (try with_reducible rfl)))
      try simp only [Act.put, List.getElem_toArray, List.getElem_cons_succ, List.getElem_cons_zero, List.setIfInBounds_toArray, List.set_cons_zero, List.set_cons_succ]
      (refine wpAnyH_take (i := 31) (v := ?_) rfl (by kernel_rfl) (by kernel_rfl) (by kernel_rfl) (fun _ _ _ h => h) (Or.inl ⟨by rfl, ?_⟩) hHeld ?_; rotate_left; focus (intro w hSw; (try dsimp only at hSw); go_simp; (try with_reducible rfl)))
      try simp only [Act.put, List.getElem_toArray, List.getElem_cons_succ, List.getElem_cons_zero, List.setIfInBounds_toArray, List.set_cons_zero, List.set_cons_succ]
      (refine wpAnyH_take (i := 32) (v := ?_) rfl (by kernel_rfl) (by kernel_rfl) (by kernel_rfl) (fun _ _ _ h => h) (Or.inl ⟨by rfl, ?_⟩) hHeld ?_; rotate_left; focus (intro w hSw; (try dsimp only at hSw); go_simp; (try with_reducible rfl)))
      try simp only [Act.put, List.getElem_toArray, List.getElem_cons_succ, List.getElem_cons_zero, List.setIfInBounds_toArray, List.set_cons_zero, List.set_cons_succ]
      first | (refine wpAnyH_take (i := 33) rfl (by kernel_rfl) (by kernel_rfl) (by kernel_rfl) (fun _ _ _ h => h) (Or.inr ⟨by rfl, rfl⟩) hHeld ?_) | (refine wpAnyH_take (i := 33) (v := ?_) rfl (by kernel_rfl) (by kernel_rfl) (by kernel_rfl) (fun _ _ _ h => h) (Or.inl ⟨by rfl, ?_⟩) hHeld ?_; rotate_left; focus (intro w hSw; (try dsimp only at hSw); go_simp; (try with_reducible rfl)))
      try simp only [Act.put, List.getElem_toArray, List.getElem_cons_succ, List.getElem_cons_zero, List.setIfInBounds_toArray, List.set_cons_zero, List.set_cons_succ]
      first | (refine wpAnyH_take (i := 34) rfl (by kernel_rfl) (by kernel_rfl) (by kernel_rfl) (fun _ _ _ h => h) (Or.inr ⟨by rfl, rfl⟩) hHeld ?_) | (refine wpAnyH_take (i := 34) (v := ?_) rfl (by kernel_rfl) (by kernel_rfl) (by kernel_rfl) (fun _ _ _ h => h) (Or.inl ⟨by rfl, ?_⟩) hHeld ?_; rotate_left; focus (intro w hSw; (try dsimp only at hSw); go_simp; (try with_reducible rfl)))
      try simp only [Act.put, List.getElem_toArray, List.getElem_cons_succ, List.getElem_cons_zero, List.setIfInBounds_toArray, List.set_cons_zero, List.set_cons_succ]
      first | (refine wpAnyH_take (i := 35) rfl (by kernel_rfl) (by kernel_rfl) (by kernel_rfl) (fun _ _ _ h => h) (Or.inr ⟨by rfl, rfl⟩) hHeld ?_) | (refine wpAnyH_take (i := 35) (v := ?_) rfl (by kernel_rfl) (by kernel_rfl) (by kernel_rfl) (fun _ _ _ h => h) (Or.inl ⟨by rfl, ?_⟩) hHeld ?_; rotate_left; focus (intro w hSw; (try dsimp only at hSw); go_simp; (try with_reducible rfl)))
      try simp only [Act.put, List.getElem_toArray, List.getElem_cons_succ, List.getElem_cons_zero, List.setIfInBounds_toArray, List.set_cons_zero, List.set_cons_succ]
      (refine wpAnyH_take (i := 36) (v := ?_) rfl (by kernel_rfl) (by kernel_rfl) (by kernel_rfl) (fun _ _ _ h => h) (Or.inl ⟨by rfl, ?_⟩) hHeld ?_; rotate_left; focus (intro w hSw; (try dsimp only at hSw); go_simp; (try with_reducible rfl)))
      try simp only [Act.put, List.getElem_toArray, List.getElem_cons_succ, List.getElem_cons_zero, List.setIfInBounds_toArray, List.set_cons_zero, List.set_cons_succ]
      (refine wpAnyH_take (i := 37) (v := ?_) rfl (by kernel_rfl) (by kernel_rfl) (by kernel_rfl) (fun _ _ _ h => h) (Or.inl ⟨by rfl, ?_⟩) hHeld ?_; rotate_left; focus (intro w hSw; (try dsimp only at hSw); go_simp; (try with_reducible rfl)))
      try simp only [Act.put, List.getElem_toArray, List.getElem_cons_succ, List.getElem_cons_zero, List.setIfInBounds_toArray, List.set_cons_zero, List.set_cons_succ]
      first | (refine wpAnyH_take (i := 38) rfl (by kernel_rfl) (by kernel_rfl) (by kernel_rfl) (fun _ _ _ h => h) (Or.inr ⟨by rfl, rfl⟩) hHeld ?_) | (refine wpAnyH_take (i := 38) (v := ?_) rfl (by kernel_rfl) (by kernel_rfl) (by kernel_rfl) (fun _ _ _ h => h) (Or.inl ⟨by rfl, ?_⟩) hHeld ?_; rotate_left; focus (intro w hSw; (try dsimp only at hSw); go_simp; (try with_reducible rfl)))
      try simp only [Act.put, List.getElem_toArray, List.getElem_cons_succ, List.getElem_cons_zero, List.setIfInBounds_toArray, List.set_cons_zero, List.set_cons_succ]
      first | (refine wpAnyH_take (i := 39) rfl (by kernel_rfl) (by kernel_rfl) (by kernel_rfl) (fun _ _ _ h => h) (Or.inr ⟨by rfl, rfl⟩) hHeld ?_) | (refine wpAnyH_take (i := 39) (v := ?_) rfl (by kernel_rfl) (by kernel_rfl) (by kernel_rfl) (fun _ _ _ h => h) (Or.inl ⟨by rfl, ?_⟩) hHeld ?_; rotate_left; focus (intro w hSw; (try dsimp only at hSw); go_simp; (try with_reducible rfl)))
      try simp only [Act.put, List.getElem_toArray, List.getElem_cons_succ, List.getElem_cons_zero, List.setIfInBounds_toArray, List.set_cons_zero, List.set_cons_succ]
      first | (refine wpAnyH_take (i := 40) rfl (by kernel_rfl) (by kernel_rfl) (by kernel_rfl) (fun _ _ _ h => h) (Or.inr ⟨by rfl, rfl⟩) hHeld ?_) | (refine wpAnyH_take (i := 40) (v := ?_) rfl (by kernel_rfl) (by kernel_rfl) (by kernel_rfl) (fun _ _ _ h => h) (Or.inl ⟨by rfl, ?_⟩) hHeld ?_; rotate_left; focus (intro w hSw; (try dsimp only at hSw); go_simp; (try with_reducible rfl)))
      try simp only [Act.put, List.getElem_toArray, List.getElem_cons_succ, List.getElem_cons_zero, List.setIfInBounds_toArray, List.set_cons_zero, List.set_cons_succ]
      (refine wpAnyH_take (i := 41) (v := ?_) rfl (by kernel_rfl) (by kernel_rfl) (by kernel_rfl) (fun _ _ _ h => h) (Or.inl ⟨by rfl, ?_⟩) hHeld ?_; rotate_left; focus (intro w hSw; (try dsimp only at hSw); go_simp; (try with_reducible rfl)))
      try simp only [Act.put, List.getElem_toArray, List.getElem_cons_succ, List.getElem_cons_zero, List.setIfInBounds_toArray, List.set_cons_zero, List.set_cons_succ]
      (refine wpAnyH_take (i := 42) (v := ?_) rfl (by kernel_rfl) (by kernel_rfl) (by kernel_rfl) (fun _ _ _ h => h) (Or.inl ⟨by rfl, ?_⟩) hHeld ?_; rotate_left; focus (intro w hSw; (try dsimp only at hSw); go_simp; (try with_reducible rfl)))
      try simp only [Act.put, List.getElem_toArray, List.getElem_cons_succ, List.getElem_cons_zero, List.setIfInBounds_toArray, List.set_cons_zero, List.set_cons_succ]
      first | (refine wpAnyH_take (i := 43) rfl (by kernel_rfl) (by kernel_rfl) (by kernel_rfl) (fun _ _ _ h => h) (Or.inr ⟨by rfl, rfl⟩) hHeld ?_) | (refine wpAnyH_ready (rs := [43]) (by kernel_rfl) (by simp) ?_; refine AllReadyH.cons rfl (fun K hK => ?_) AllReadyH.nil; go_simp; (first | (go_at_call 8; refine (C1.out _).mono ?_; rintro t w' ⟨rfl, hb⟩) | (go_at_call 9; refine (C2.out _).mono ?_; rintro t w' ⟨rfl, hb⟩) | (go_at_call 10; refine (C3.out _).mono ?_; rintro t w' ⟨rfl, hb⟩) | (go_at_call 6; refine (C4.out _).mono ?_; rintro t w' ⟨rfl, hb⟩) | (go_at_call 11; refine (C5.out _).mono ?_; rintro t w' ⟨rfl, rfl⟩) | (go_at_call 12; refine (C6.out _).mono ?_; rintro t w' ⟨rfl, rfl⟩) | (go_at_call 13; refine (C7.out _).mono ?_; rintro t w' ⟨rfl, rfl⟩) | (go_at_call 14; refine (C8.out _).mono ?_; rintro t w' ⟨rfl, rfl⟩) | (go_at_call 5; refine (C0.out _ hHeld.2.1).mono ?_; rintro t w' ⟨rfl, hb⟩)); (try go_wp2_with fail); refine hK.out _ _ ?_ (fun hHeld' => ?_); (focus (first | exact hkeep _ _ hb hHeld | exact hHeld)); clear hK K; replace hHeld := hHeld'; clear hHeld')
      try simp only [Act.put, List.getElem_toArray, List.getElem_cons_succ, List.getElem_cons_zero, List.setIfInBounds_toArray, List.set_cons_zero, List.set_cons_succ]
      (refine wpAnyH_take (i := 44) (v := ?_) rfl (by kernel_rfl) (by kernel_rfl) (by kernel_rfl) (fun _ _ _ h => h) (Or.inl ⟨by rfl, ?_⟩) hHeld ?_; rotate_left; focus (intro w hSw; (try dsimp only at hSw); go_simp; (try with_reducible rfl)))
      try simp only [Act.put, List.getElem_toArray, List.getElem_cons_succ, List.getElem_cons_zero, List.setIfInBounds_toArray, List.set_cons_zero, List.set_cons_succ]
      (refine wpAnyH_take (i := 45) (v := ?_) rfl (by kernel_rfl) (by kernel_rfl) (by kernel_rfl) (fun _ _ _ h => h) (Or.inl ⟨by rfl, ?_⟩) hHeld ?_; rotate_left; focus (intro w hSw; (try dsimp only at hSw); go_simp; (try with_reducible rfl)))
      try simp only [Act.put, List.getElem_toArray, List.getElem_cons_succ, List.getElem_cons_zero, List.setIfInBounds_toArray, List.set_cons_zero, List.set_cons_succ]
      refine wpAnyH_done (by kernel_rfl) ?_ _
      refine NoPanic.normal ?_
      have hb := HBB.out _ hHeld
      have HBF := Lib.hid hb
      clear hHeld hb
      go_wp2_with fail
      go_ret
      exact ⟨rfl, by rw [HZ.out]; exact HBF.out⟩
theorem callWords_walk (op l key pa pb hd r : Int) (s : List UInt8) (bop : -9223372036854775808 ≤ op ∧ op ≤ 9223372036854775807) (w : World) (ht : TabW w) :
    Calls Tryd.prog 3 #[.agg (callC op l key pa pb hd r), .string (sB s)] w fun t w' => t = .returned (.bool true) ∧ Below w.heap.size w w' := callWords_walk' op l key pa pb hd r s bop w ht
end Go.Proofs.YthhheeocanbkiaaDoor
