/- The walk of law CallFits. -/
import Derived.Test.YthhheeocanbkiaaDoorRef9Ok
import Derived.Test.YthhheeocanbkiaaDoorRef9No
import Derived.Test.YthhheeocanbkiaaDoorCallLives
import Derived.Deep.RegionHeld3
namespace Go.Proofs.YthhheeocanbkiaaDoor
set_option linter.unusedSimpArgs false
open Go.ChangeShapes Go.WideShapes Go.ChangeAt Go.RowKit
theorem r9Fits_any (op l key pa pb hd r e a b h n k : Int) (hh : 0 ≤ h) (w : World) : Calls Tryd.prog 16 #[(.agg #[.int .i64 op, .int .i64 l, .int .i64 key, .int .u64 pa, .int .u64 pb, .int .u64 hd, .int .i64 r]), (.agg #[.int .i64 e, .int .u64 a, .int .u64 b, .int .u64 h, .int .i64 n, .int .i64 k])] w fun t w' => t = .returned (.bool (fitsC op l r ⟨e, a, b, h, n, k⟩)) ∧ Below w.heap.size w w' := by
  cases hm : mayC op l r
  · have H : fitsC op l r ⟨e, a, b, h, n, k⟩ = false := by unfold fitsC; rw [hm]; rfl
    rw [H]
    exact r9Fits_no op l key pa pb hd r e a b h n k hm w
  · by_cases he : e = 0
    · subst he
      have H : fitsC op l r ⟨0, a, b, h, n, k⟩ = toldT op a b h n k := by unfold fitsC; rw [hm]; rfl
      rw [H]
      exact r9Ok op l key pa pb hd r a b h n k hh hm w
    · have hq : (e == 0) = false := by simp [he]
      have H : fitsC op l r ⟨e, a, b, h, n, k⟩ = (badT op e && sameA ⟨e, a, b, h, n, k⟩ ⟨e, 0, 0, 0, 0, 0⟩) := by
        unfold fitsC
        rw [hm]
        show (bif e == 0 then _ else _) = _
        rw [hq]
        rfl
      rw [H]
      exact r9Not op l key pa pb hd r e a b h n k he hm w
theorem three_new (op l key pa pb hd r : Int) (x y : Ans) (t u v : TypeId) (w : World) : ∀ W, ((w.alloc (.cells (callC op l key pa pb hd r) t)).alloc (.cells x.cells u)).alloc (.cells y.cells v) = W →
    Below w.heap.size w W ∧ CallIs W w.heap.size op l key pa pb hd r ∧ AnsIs W (w.heap.size + 1) x ∧ AnsIs W (w.heap.size + 1 + 1) y := by
  rintro W rfl
  obtain ⟨h1, h2, h3⟩ := two_new op l key pa pb hd r x t u w _ rfl
  have hb := (Below.refl ((w.alloc (.cells (callC op l key pa pb hd r) t)).alloc (.cells x.cells u)).heap.size _).alloc (Nat.le_refl _) (.cells y.cells v)
  refine ⟨h1.alloc h1.size _, h2.keep hb, h3.keep hb, ?_⟩
  have h := ansIs_new y v ((w.alloc (.cells (callC op l key pa pb hd r) t)).alloc (.cells x.cells u))
  simpa using h
set_option maxRecDepth 100000 in
set_option maxHeartbeats 8000000 in
theorem callFits_walk' (op l key pa pb hd r e a b h n k e' a' b' h' n' k' : Int) (hh : 0 ≤ h) (w : World) (ht : TabW w) :
    Calls Tryd.prog 4 #[(.agg #[.int .i64 op, .int .i64 l, .int .i64 key, .int .u64 pa, .int .u64 pb, .int .u64 hd, .int .i64 r]), (.agg #[.int .i64 e, .int .u64 a, .int .u64 b, .int .u64 h, .int .i64 n, .int .i64 k]), (.agg #[.int .i64 e', .int .u64 a', .int .u64 b', .int .u64 h', .int .i64 n', .int .i64 k'])] w fun t w' => t = .returned (.bool true) ∧ Below w.heap.size w w' := by
  have C1 := Lib.hid (fun W => kFits_any op l key pa pb hd r e a b h n k W)
  have C2 := Lib.hid (fun W => r9Fits_any op l key pa pb hd r e a b h n k hh W)
  have C3 := Lib.hid (fun W => kSame_cells e a b h n k e' a' b' h' n' k' W)
  have C4 := Lib.hid (fun W => kSame_cells e a b h n k e a b h n k W)
  have C5 := Lib.hid (fun W hW => lives9_any W hW)
  have hE := fun W => eql_ans W ⟨e, a, b, h, n, k⟩ ⟨e', a', b', h', n', k'⟩
  simp only [Ans.cells] at hE
  rw [sameA_self] at C4
  generalize fitsC op l r ⟨e, a, b, h, n, k⟩ = F at *
  generalize sameA ⟨e, a, b, h, n, k⟩ ⟨e', a', b', h', n', k'⟩ = G at *
  have hF : (F == F) = true := by simp
  have hG : (G == G) = true := by simp
  clear hh
  have HT := Lib.hid ht; clear ht
  go_enter Tryd.func4, Tryd.ntmps4
  go_upto_region 1 with fail
  generalize hW : World.alloc (World.alloc (World.alloc _ _) _) _ = W
  obtain ⟨hB, hcl, han, han'⟩ := three_new op l key pa pb hd r ⟨e, a, b, h, n, k⟩ ⟨e', a', b', h', n', k'⟩ _ _ _ w W hW
  have hT := HT.out.below hB
  clear hW HT
  generalize hz : w.heap.size = a1 at *
  have HZ := Lib.hid hz; clear hz
  have hst : ∀ w' : World, Below a1 w w' → TabW w' → CallIs w' a1 op l key pa pb hd r → AnsIs w' (a1 + 1) ⟨e, a, b, h, n, k⟩ → AnsIs w' (a1 + 1 + 1) ⟨e', a', b', h', n', k'⟩ → Below a1 w w' ∧ TabW w' ∧ CallIs w' a1 op l key pa pb hd r ∧ AnsIs w' (a1 + 1) ⟨e, a, b, h, n, k⟩ ∧ AnsIs w' (a1 + 1 + 1) ⟨e', a', b', h', n', k'⟩ ∧ w'.cell? ⟨a1, 0, none⟩ = some (.int .i64 op) ∧ w'.cell? ⟨a1, 1, none⟩ = some (.int .i64 l) ∧ w'.cell? ⟨a1, 2, none⟩ = some (.int .i64 key) ∧ w'.cell? ⟨a1, 3, none⟩ = some (.int .u64 pa) ∧ w'.cell? ⟨a1, 4, none⟩ = some (.int .u64 pb) ∧ w'.cell? ⟨a1, 5, none⟩ = some (.int .u64 hd) ∧ w'.cell? ⟨a1, 6, none⟩ = some (.int .i64 r) ∧ w'.cell? ⟨a1 + 1, 0, none⟩ = some (.int .i64 e) ∧ w'.cell? ⟨a1 + 1, 1, none⟩ = some (.int .u64 a) ∧ w'.cell? ⟨a1 + 1, 2, none⟩ = some (.int .u64 b) ∧ w'.cell? ⟨a1 + 1, 3, none⟩ = some (.int .u64 h) ∧ w'.cell? ⟨a1 + 1, 4, none⟩ = some (.int .i64 n) ∧ w'.cell? ⟨a1 + 1, 5, none⟩ = some (.int .i64 k) ∧ w'.cell? ⟨a1 + 1 + 1, 0, none⟩ = some (.int .i64 e') ∧ w'.cell? ⟨a1 + 1 + 1, 1, none⟩ = some (.int .u64 a') ∧ w'.cell? ⟨a1 + 1 + 1, 2, none⟩ = some (.int .u64 b') ∧ w'.cell? ⟨a1 + 1 + 1, 3, none⟩ = some (.int .u64 h') ∧ w'.cell? ⟨a1 + 1 + 1, 4, none⟩ = some (.int .i64 n') ∧ w'.cell? ⟨a1 + 1 + 1, 5, none⟩ = some (.int .i64 k') := fun w' h1 h2 h3 h4 h5 =>
    ⟨h1, h2, h3, h4, h5, h3.c0, h3.c1, h3.c2, h3.c3, h3.c4, h3.c5, h3.c6, h4.c0, h4.c1, h4.c2, h4.c3, h4.c4, h4.c5, h5.c0, h5.c1, h5.c2, h5.c3, h5.c4, h5.c5⟩
  have hkeep : ∀ w1 w2 : World, Below w1.heap.size w1 w2 → (fun w' : World => Below a1 w w' ∧ TabW w' ∧ CallIs w' a1 op l key pa pb hd r ∧ AnsIs w' (a1 + 1) ⟨e, a, b, h, n, k⟩ ∧ AnsIs w' (a1 + 1 + 1) ⟨e', a', b', h', n', k'⟩ ∧ w'.cell? ⟨a1, 0, none⟩ = some (.int .i64 op) ∧ w'.cell? ⟨a1, 1, none⟩ = some (.int .i64 l) ∧ w'.cell? ⟨a1, 2, none⟩ = some (.int .i64 key) ∧ w'.cell? ⟨a1, 3, none⟩ = some (.int .u64 pa) ∧ w'.cell? ⟨a1, 4, none⟩ = some (.int .u64 pb) ∧ w'.cell? ⟨a1, 5, none⟩ = some (.int .u64 hd) ∧ w'.cell? ⟨a1, 6, none⟩ = some (.int .i64 r) ∧ w'.cell? ⟨a1 + 1, 0, none⟩ = some (.int .i64 e) ∧ w'.cell? ⟨a1 + 1, 1, none⟩ = some (.int .u64 a) ∧ w'.cell? ⟨a1 + 1, 2, none⟩ = some (.int .u64 b) ∧ w'.cell? ⟨a1 + 1, 3, none⟩ = some (.int .u64 h) ∧ w'.cell? ⟨a1 + 1, 4, none⟩ = some (.int .i64 n) ∧ w'.cell? ⟨a1 + 1, 5, none⟩ = some (.int .i64 k) ∧ w'.cell? ⟨a1 + 1 + 1, 0, none⟩ = some (.int .i64 e') ∧ w'.cell? ⟨a1 + 1 + 1, 1, none⟩ = some (.int .u64 a') ∧ w'.cell? ⟨a1 + 1 + 1, 2, none⟩ = some (.int .u64 b') ∧ w'.cell? ⟨a1 + 1 + 1, 3, none⟩ = some (.int .u64 h') ∧ w'.cell? ⟨a1 + 1 + 1, 4, none⟩ = some (.int .i64 n') ∧ w'.cell? ⟨a1 + 1 + 1, 5, none⟩ = some (.int .i64 k')) w1 → (fun w' : World => Below a1 w w' ∧ TabW w' ∧ CallIs w' a1 op l key pa pb hd r ∧ AnsIs w' (a1 + 1) ⟨e, a, b, h, n, k⟩ ∧ AnsIs w' (a1 + 1 + 1) ⟨e', a', b', h', n', k'⟩ ∧ w'.cell? ⟨a1, 0, none⟩ = some (.int .i64 op) ∧ w'.cell? ⟨a1, 1, none⟩ = some (.int .i64 l) ∧ w'.cell? ⟨a1, 2, none⟩ = some (.int .i64 key) ∧ w'.cell? ⟨a1, 3, none⟩ = some (.int .u64 pa) ∧ w'.cell? ⟨a1, 4, none⟩ = some (.int .u64 pb) ∧ w'.cell? ⟨a1, 5, none⟩ = some (.int .u64 hd) ∧ w'.cell? ⟨a1, 6, none⟩ = some (.int .i64 r) ∧ w'.cell? ⟨a1 + 1, 0, none⟩ = some (.int .i64 e) ∧ w'.cell? ⟨a1 + 1, 1, none⟩ = some (.int .u64 a) ∧ w'.cell? ⟨a1 + 1, 2, none⟩ = some (.int .u64 b) ∧ w'.cell? ⟨a1 + 1, 3, none⟩ = some (.int .u64 h) ∧ w'.cell? ⟨a1 + 1, 4, none⟩ = some (.int .i64 n) ∧ w'.cell? ⟨a1 + 1, 5, none⟩ = some (.int .i64 k) ∧ w'.cell? ⟨a1 + 1 + 1, 0, none⟩ = some (.int .i64 e') ∧ w'.cell? ⟨a1 + 1 + 1, 1, none⟩ = some (.int .u64 a') ∧ w'.cell? ⟨a1 + 1 + 1, 2, none⟩ = some (.int .u64 b') ∧ w'.cell? ⟨a1 + 1 + 1, 3, none⟩ = some (.int .u64 h') ∧ w'.cell? ⟨a1 + 1 + 1, 4, none⟩ = some (.int .i64 n') ∧ w'.cell? ⟨a1 + 1 + 1, 5, none⟩ = some (.int .i64 k')) w2 := fun w1 w2 hb h =>
    hst w2 (below_on h.1 (Nat.le_of_eq HZ.out.symm) hb) (h.2.1.below hb) (h.2.2.1.keep hb) (h.2.2.2.1.keep hb) (h.2.2.2.2.1.keep hb)
  have HST := Lib.hid (hst W.drew hB.drew hT ⟨hcl.lt, hcl.c0, hcl.c1, hcl.c2, hcl.c3, hcl.c4, hcl.c5, hcl.c6⟩ ⟨han.lt, han.c0, han.c1, han.c2, han.c3, han.c4, han.c5⟩ ⟨han'.lt, han'.c0, han'.c1, han'.c2, han'.c3, han'.c4, han'.c5⟩)
  have HBB : Hid (∀ w', (fun w' : World => Below a1 w w' ∧ TabW w' ∧ CallIs w' a1 op l key pa pb hd r ∧ AnsIs w' (a1 + 1) ⟨e, a, b, h, n, k⟩ ∧ AnsIs w' (a1 + 1 + 1) ⟨e', a', b', h', n', k'⟩ ∧ w'.cell? ⟨a1, 0, none⟩ = some (.int .i64 op) ∧ w'.cell? ⟨a1, 1, none⟩ = some (.int .i64 l) ∧ w'.cell? ⟨a1, 2, none⟩ = some (.int .i64 key) ∧ w'.cell? ⟨a1, 3, none⟩ = some (.int .u64 pa) ∧ w'.cell? ⟨a1, 4, none⟩ = some (.int .u64 pb) ∧ w'.cell? ⟨a1, 5, none⟩ = some (.int .u64 hd) ∧ w'.cell? ⟨a1, 6, none⟩ = some (.int .i64 r) ∧ w'.cell? ⟨a1 + 1, 0, none⟩ = some (.int .i64 e) ∧ w'.cell? ⟨a1 + 1, 1, none⟩ = some (.int .u64 a) ∧ w'.cell? ⟨a1 + 1, 2, none⟩ = some (.int .u64 b) ∧ w'.cell? ⟨a1 + 1, 3, none⟩ = some (.int .u64 h) ∧ w'.cell? ⟨a1 + 1, 4, none⟩ = some (.int .i64 n) ∧ w'.cell? ⟨a1 + 1, 5, none⟩ = some (.int .i64 k) ∧ w'.cell? ⟨a1 + 1 + 1, 0, none⟩ = some (.int .i64 e') ∧ w'.cell? ⟨a1 + 1 + 1, 1, none⟩ = some (.int .u64 a') ∧ w'.cell? ⟨a1 + 1 + 1, 2, none⟩ = some (.int .u64 b') ∧ w'.cell? ⟨a1 + 1 + 1, 3, none⟩ = some (.int .u64 h') ∧ w'.cell? ⟨a1 + 1 + 1, 4, none⟩ = some (.int .i64 n') ∧ w'.cell? ⟨a1 + 1 + 1, 5, none⟩ = some (.int .i64 k')) w' → Below a1 w w') := Lib.hid (fun w' h => h.1)
  clear hB hcl han han' hst hT
  refine wp_region_noPanic ?_
  refine wp_region_held_drew (S := fun w' => Below a1 w w' ∧ TabW w' ∧ CallIs w' a1 op l key pa pb hd r ∧ AnsIs w' (a1 + 1) ⟨e, a, b, h, n, k⟩ ∧ AnsIs w' (a1 + 1 + 1) ⟨e', a', b', h', n', k'⟩ ∧ w'.cell? ⟨a1, 0, none⟩ = some (.int .i64 op) ∧ w'.cell? ⟨a1, 1, none⟩ = some (.int .i64 l) ∧ w'.cell? ⟨a1, 2, none⟩ = some (.int .i64 key) ∧ w'.cell? ⟨a1, 3, none⟩ = some (.int .u64 pa) ∧ w'.cell? ⟨a1, 4, none⟩ = some (.int .u64 pb) ∧ w'.cell? ⟨a1, 5, none⟩ = some (.int .u64 hd) ∧ w'.cell? ⟨a1, 6, none⟩ = some (.int .i64 r) ∧ w'.cell? ⟨a1 + 1, 0, none⟩ = some (.int .i64 e) ∧ w'.cell? ⟨a1 + 1, 1, none⟩ = some (.int .u64 a) ∧ w'.cell? ⟨a1 + 1, 2, none⟩ = some (.int .u64 b) ∧ w'.cell? ⟨a1 + 1, 3, none⟩ = some (.int .u64 h) ∧ w'.cell? ⟨a1 + 1, 4, none⟩ = some (.int .i64 n) ∧ w'.cell? ⟨a1 + 1, 5, none⟩ = some (.int .i64 k) ∧ w'.cell? ⟨a1 + 1 + 1, 0, none⟩ = some (.int .i64 e') ∧ w'.cell? ⟨a1 + 1 + 1, 1, none⟩ = some (.int .u64 a') ∧ w'.cell? ⟨a1 + 1 + 1, 2, none⟩ = some (.int .u64 b') ∧ w'.cell? ⟨a1 + 1 + 1, 3, none⟩ = some (.int .u64 h') ∧ w'.cell? ⟨a1 + 1 + 1, 4, none⟩ = some (.int .i64 n') ∧ w'.cell? ⟨a1 + 1 + 1, 5, none⟩ = some (.int .i64 k')) (by kernel_rfl) (HST.out) (fun hHeld => ?_)
  (refine wpAnyH_take (i := 0) (v := ?_) rfl (by kernel_rfl) (by kernel_rfl) (by kernel_rfl) (fun _ _ _ h => h) (Or.inl ⟨by rfl, ?_⟩) hHeld ?_; rotate_left; focus (intro w hSw; (try dsimp only at hSw); go_simp; (try with_reducible rfl)))
  try simp only [Act.put, List.getElem_toArray, List.getElem_cons_succ, List.getElem_cons_zero, List.setIfInBounds_toArray, List.set_cons_zero, List.set_cons_succ]
  (refine wpAnyH_take (i := 1) (v := ?_) rfl (by kernel_rfl) (by kernel_rfl) (by kernel_rfl) (fun _ _ _ h => h) (Or.inl ⟨by rfl, ?_⟩) hHeld ?_; rotate_left; focus (intro w hSw; (try dsimp only at hSw); go_simp; (try with_reducible rfl)))
  try simp only [Act.put, List.getElem_toArray, List.getElem_cons_succ, List.getElem_cons_zero, List.setIfInBounds_toArray, List.set_cons_zero, List.set_cons_succ]
  (refine wpAnyH_take (i := 3) (v := ?_) rfl (by kernel_rfl) (by kernel_rfl) (by kernel_rfl) (fun _ _ _ h => h) (Or.inl ⟨by rfl, ?_⟩) hHeld ?_; rotate_left; focus (intro w hSw; (try dsimp only at hSw); go_simp; (try with_reducible rfl)))
  try simp only [Act.put, List.getElem_toArray, List.getElem_cons_succ, List.getElem_cons_zero, List.setIfInBounds_toArray, List.set_cons_zero, List.set_cons_succ]
  (refine wpAnyH_take (i := 4) (v := ?_) rfl (by kernel_rfl) (by kernel_rfl) (by kernel_rfl) (fun _ _ _ h => h) (Or.inl ⟨by rfl, ?_⟩) hHeld ?_; rotate_left; focus (intro w hSw; (try dsimp only at hSw); go_simp; (try with_reducible rfl)))
  try simp only [Act.put, List.getElem_toArray, List.getElem_cons_succ, List.getElem_cons_zero, List.setIfInBounds_toArray, List.set_cons_zero, List.set_cons_succ]
  (refine wpAnyH_ready (rs := [2]) (by kernel_rfl) (by simp) ?_; refine AllReadyH.cons rfl (fun K hK => ?_) AllReadyH.nil; go_simp; (first | (go_at_call 15; refine (C1.out _).mono ?_; rintro t w' ⟨rfl, hb⟩) | (go_at_call 16; refine (C2.out _).mono ?_; rintro t w' ⟨rfl, hb⟩) | (go_at_call 17; with_reducible refine (C3.out _).mono ?_; rintro t w' ⟨rfl, hb⟩) | (go_at_call 17; with_reducible refine (C4.out _).mono ?_; rintro t w' ⟨rfl, hb⟩) | (go_at_call 5; refine (C5.out _ hHeld.2.1).mono ?_; rintro t w' ⟨rfl, hb⟩)); (try go_wp2_with fail); refine hK.out _ _ ?_ (fun hHeld' => ?_); (focus (exact hkeep _ _ hb hHeld)); clear hK K; replace hHeld := hHeld'; clear hHeld')
  try simp only [Act.put, List.getElem_toArray, List.getElem_cons_succ, List.getElem_cons_zero, List.setIfInBounds_toArray, List.set_cons_zero, List.set_cons_succ]
  (refine wpAnyH_ready (rs := [5]) (by kernel_rfl) (by simp) ?_; refine AllReadyH.cons rfl (fun K hK => ?_) AllReadyH.nil; go_simp; (first | (go_at_call 15; refine (C1.out _).mono ?_; rintro t w' ⟨rfl, hb⟩) | (go_at_call 16; refine (C2.out _).mono ?_; rintro t w' ⟨rfl, hb⟩) | (go_at_call 17; with_reducible refine (C3.out _).mono ?_; rintro t w' ⟨rfl, hb⟩) | (go_at_call 17; with_reducible refine (C4.out _).mono ?_; rintro t w' ⟨rfl, hb⟩) | (go_at_call 5; refine (C5.out _ hHeld.2.1).mono ?_; rintro t w' ⟨rfl, hb⟩)); (try go_wp2_with fail); refine hK.out _ _ ?_ (fun hHeld' => ?_); (focus (exact hkeep _ _ hb hHeld)); clear hK K; replace hHeld := hHeld'; clear hHeld')
  try simp only [Act.put, List.getElem_toArray, List.getElem_cons_succ, List.getElem_cons_zero, List.setIfInBounds_toArray, List.set_cons_zero, List.set_cons_succ]
  (refine wpAnyH_take (i := 6) (v := ?_) rfl (by kernel_rfl) (by kernel_rfl) (by kernel_rfl) (fun _ _ _ h => h) (Or.inl ⟨by rfl, ?_⟩) hHeld ?_; rotate_left; focus (intro w hSw; (try dsimp only at hSw); go_simp; (try with_reducible rfl)))
  try simp only [Act.put, List.getElem_toArray, List.getElem_cons_succ, List.getElem_cons_zero, List.setIfInBounds_toArray, List.set_cons_zero, List.set_cons_succ]
  (refine wpAnyH_take (i := 7) (v := ?_) rfl (by kernel_rfl) (by kernel_rfl) (by kernel_rfl) (fun _ _ _ h => h) (Or.inl ⟨by rfl, ?_⟩) hHeld ?_; rotate_left; focus (intro w hSw; (try dsimp only at hSw); go_simp; (try with_reducible rfl)))
  try simp only [Act.put, List.getElem_toArray, List.getElem_cons_succ, List.getElem_cons_zero, List.setIfInBounds_toArray, List.set_cons_zero, List.set_cons_succ]
  first | (refine wpAnyH_take (i := 8) rfl (by kernel_rfl) (by kernel_rfl) (by kernel_rfl) (fun _ _ _ h => h) (Or.inr ⟨by rfl, rfl⟩) hHeld ?_) | (refine wpAnyH_take (i := 8) (v := ?_) rfl (by kernel_rfl) (by kernel_rfl) (by kernel_rfl) (fun _ _ _ h => h) (Or.inl ⟨by rfl, ?_⟩) hHeld ?_; rotate_left; focus (intro w hSw; (try dsimp only at hSw); go_simp; (try with_reducible rfl)))
  try simp only [Act.put, List.getElem_toArray, List.getElem_cons_succ, List.getElem_cons_zero, List.setIfInBounds_toArray, List.set_cons_zero, List.set_cons_succ]
  first | (refine wpAnyH_take (i := 9) rfl (by kernel_rfl) (by kernel_rfl) (by kernel_rfl) (fun _ _ _ h => h) (Or.inr ⟨by rfl, rfl⟩) hHeld ?_) | (refine wpAnyH_take (i := 9) (v := ?_) rfl (by kernel_rfl) (by kernel_rfl) (by kernel_rfl) (fun _ _ _ h => h) (Or.inl ⟨by rfl, ?_⟩) hHeld ?_; rotate_left; focus (intro w hSw; (try dsimp only at hSw); go_simp; (try with_reducible rfl)))
  try simp only [Act.put, List.getElem_toArray, List.getElem_cons_succ, List.getElem_cons_zero, List.setIfInBounds_toArray, List.set_cons_zero, List.set_cons_succ]
  first | (refine wpAnyH_take (i := 11) rfl (by kernel_rfl) (by kernel_rfl) (by kernel_rfl) (fun _ _ _ h => h) (Or.inr ⟨by rfl, rfl⟩) hHeld ?_) | (refine wpAnyH_take (i := 11) (v := ?_) rfl (by kernel_rfl) (by kernel_rfl) (by kernel_rfl) (fun _ _ _ h => h) (Or.inl ⟨by rfl, ?_⟩) hHeld ?_; rotate_left; focus (intro w hSw; (try dsimp only at hSw); go_simp; (try with_reducible rfl)))
  try simp only [Act.put, List.getElem_toArray, List.getElem_cons_succ, List.getElem_cons_zero, List.setIfInBounds_toArray, List.set_cons_zero, List.set_cons_succ]
  first | (refine wpAnyH_take (i := 12) rfl (by kernel_rfl) (by kernel_rfl) (by kernel_rfl) (fun _ _ _ h => h) (Or.inr ⟨by rfl, rfl⟩) hHeld ?_) | (refine wpAnyH_take (i := 12) (v := ?_) rfl (by kernel_rfl) (by kernel_rfl) (by kernel_rfl) (fun _ _ _ h => h) (Or.inl ⟨by rfl, ?_⟩) hHeld ?_; rotate_left; focus (intro w hSw; (try dsimp only at hSw); go_simp; (try with_reducible rfl)))
  try simp only [Act.put, List.getElem_toArray, List.getElem_cons_succ, List.getElem_cons_zero, List.setIfInBounds_toArray, List.set_cons_zero, List.set_cons_succ]
  first | (refine wpAnyH_take (i := 13) rfl (by kernel_rfl) (by kernel_rfl) (by kernel_rfl) (fun _ _ _ h => h) (Or.inr ⟨by rfl, rfl⟩) hHeld ?_) | (refine wpAnyH_take (i := 13) (v := ?_) rfl (by kernel_rfl) (by kernel_rfl) (by kernel_rfl) (fun _ _ _ h => h) (Or.inl ⟨by rfl, ?_⟩) hHeld ?_; rotate_left; focus (intro w hSw; (try dsimp only at hSw); go_simp; (try with_reducible rfl)))
  try simp only [Act.put, List.getElem_toArray, List.getElem_cons_succ, List.getElem_cons_zero, List.setIfInBounds_toArray, List.set_cons_zero, List.set_cons_succ]
  first | (refine wpAnyH_take (i := 10) rfl (by kernel_rfl) (by kernel_rfl) (by kernel_rfl) (fun _ _ _ h => h) (Or.inr ⟨by rfl, rfl⟩) hHeld ?_) | (refine wpAnyH_ready (rs := [10]) (by kernel_rfl) (by simp) ?_; refine AllReadyH.cons rfl (fun K hK => ?_) AllReadyH.nil; go_simp; (first | (go_at_call 15; refine (C1.out _).mono ?_; rintro t w' ⟨rfl, hb⟩) | (go_at_call 16; refine (C2.out _).mono ?_; rintro t w' ⟨rfl, hb⟩) | (go_at_call 17; with_reducible refine (C3.out _).mono ?_; rintro t w' ⟨rfl, hb⟩) | (go_at_call 17; with_reducible refine (C4.out _).mono ?_; rintro t w' ⟨rfl, hb⟩) | (go_at_call 5; refine (C5.out _ hHeld.2.1).mono ?_; rintro t w' ⟨rfl, hb⟩)); (try go_wp2_with fail); refine hK.out _ _ ?_ (fun hHeld' => ?_); (focus (exact hkeep _ _ hb hHeld)); clear hK K; replace hHeld := hHeld'; clear hHeld')
  try simp only [Act.put, List.getElem_toArray, List.getElem_cons_succ, List.getElem_cons_zero, List.setIfInBounds_toArray, List.set_cons_zero, List.set_cons_succ]
  first | (refine wpAnyH_take (i := 14) rfl (by kernel_rfl) (by kernel_rfl) (by kernel_rfl) (fun _ _ _ h => h) (Or.inr ⟨by rfl, rfl⟩) hHeld ?_) | (refine wpAnyH_take (i := 14) (v := ?_) rfl (by kernel_rfl) (by kernel_rfl) (by kernel_rfl) (fun _ _ _ h => h) (Or.inl ⟨by rfl, ?_⟩) hHeld ?_; rotate_left; focus (intro w hSw; (try dsimp only at hSw); go_simp; (try with_reducible rfl)))
  try simp only [Act.put, List.getElem_toArray, List.getElem_cons_succ, List.getElem_cons_zero, List.setIfInBounds_toArray, List.set_cons_zero, List.set_cons_succ]
  (refine wpAnyH_take (i := 15) (v := ?_) rfl (by kernel_rfl) (by kernel_rfl) (by kernel_rfl) (fun _ _ _ h => h) (Or.inl ⟨by rfl, ?_⟩) hHeld ?_; rotate_left; focus (intro w hSw; (try dsimp only at hSw); go_simp; (try with_reducible rfl)))
  try simp only [Act.put, List.getElem_toArray, List.getElem_cons_succ, List.getElem_cons_zero, List.setIfInBounds_toArray, List.set_cons_zero, List.set_cons_succ]
  (refine wpAnyH_take (i := 16) (v := ?_) rfl (by kernel_rfl) (by kernel_rfl) (by kernel_rfl) (fun _ _ _ h => h) (Or.inl ⟨by rfl, ?_⟩) hHeld ?_; rotate_left; focus (intro w hSw; (try dsimp only at hSw); go_simp; (try with_reducible rfl)))
  try simp only [Act.put, List.getElem_toArray, List.getElem_cons_succ, List.getElem_cons_zero, List.setIfInBounds_toArray, List.set_cons_zero, List.set_cons_succ]
  first | (refine wpAnyH_take (i := 17) rfl (by kernel_rfl) (by kernel_rfl) (by kernel_rfl) (fun _ _ _ h => h) (Or.inr ⟨by rfl, rfl⟩) hHeld ?_) | (refine wpAnyH_take (i := 17) (v := ?_) rfl (by kernel_rfl) (by kernel_rfl) (by kernel_rfl) (fun _ _ _ h => h) (Or.inl ⟨by rfl, ?_⟩) hHeld ?_; rotate_left; focus (intro w hSw; (try dsimp only at hSw); go_simp; (try with_reducible rfl)))
  try simp only [Act.put, List.getElem_toArray, List.getElem_cons_succ, List.getElem_cons_zero, List.setIfInBounds_toArray, List.set_cons_zero, List.set_cons_succ]
  first | (refine wpAnyH_take (i := 18) rfl (by kernel_rfl) (by kernel_rfl) (by kernel_rfl) (fun _ _ _ h => h) (Or.inr ⟨by rfl, rfl⟩) hHeld ?_) | (refine wpAnyH_take (i := 18) (v := ?_) rfl (by kernel_rfl) (by kernel_rfl) (by kernel_rfl) (fun _ _ _ h => h) (Or.inl ⟨by rfl, ?_⟩) hHeld ?_; rotate_left; focus (intro w hSw; (try dsimp only at hSw); go_simp; (try with_reducible rfl)))
  try simp only [Act.put, List.getElem_toArray, List.getElem_cons_succ, List.getElem_cons_zero, List.setIfInBounds_toArray, List.set_cons_zero, List.set_cons_succ]
  first | (refine wpAnyH_take (i := 19) rfl (by kernel_rfl) (by kernel_rfl) (by kernel_rfl) (fun _ _ _ h => h) (Or.inr ⟨by rfl, rfl⟩) hHeld ?_) | (refine wpAnyH_ready (rs := [19]) (by kernel_rfl) (by simp) ?_; refine AllReadyH.cons rfl (fun K hK => ?_) AllReadyH.nil; go_simp; (first | (go_at_call 15; refine (C1.out _).mono ?_; rintro t w' ⟨rfl, hb⟩) | (go_at_call 16; refine (C2.out _).mono ?_; rintro t w' ⟨rfl, hb⟩) | (go_at_call 17; with_reducible refine (C3.out _).mono ?_; rintro t w' ⟨rfl, hb⟩) | (go_at_call 17; with_reducible refine (C4.out _).mono ?_; rintro t w' ⟨rfl, hb⟩) | (go_at_call 5; refine (C5.out _ hHeld.2.1).mono ?_; rintro t w' ⟨rfl, hb⟩)); (try go_wp2_with fail); refine hK.out _ _ ?_ (fun hHeld' => ?_); (focus (exact hkeep _ _ hb hHeld)); clear hK K; replace hHeld := hHeld'; clear hHeld')
  try simp only [Act.put, List.getElem_toArray, List.getElem_cons_succ, List.getElem_cons_zero, List.setIfInBounds_toArray, List.set_cons_zero, List.set_cons_succ]
  (refine wpAnyH_take (i := 20) (v := ?_) rfl (by kernel_rfl) (by kernel_rfl) (by kernel_rfl) (fun _ _ _ h => h) (Or.inl ⟨by rfl, ?_⟩) hHeld ?_; rotate_left; focus (intro w hSw; (try dsimp only at hSw); go_simp; (try with_reducible rfl)))
  try simp only [Act.put, List.getElem_toArray, List.getElem_cons_succ, List.getElem_cons_zero, List.setIfInBounds_toArray, List.set_cons_zero, List.set_cons_succ]
  (refine wpAnyH_take (i := 21) (v := ?_) rfl (by kernel_rfl) (by kernel_rfl) (by kernel_rfl) (fun _ _ _ h => h) (Or.inl ⟨by rfl, ?_⟩) hHeld ?_; rotate_left; focus (intro w hSw; (try dsimp only at hSw); go_simp; (try with_reducible rfl)))
  try simp only [Act.put, List.getElem_toArray, List.getElem_cons_succ, List.getElem_cons_zero, List.setIfInBounds_toArray, List.set_cons_zero, List.set_cons_succ]
  first | (refine wpAnyH_take (i := 22) rfl (by kernel_rfl) (by kernel_rfl) (by kernel_rfl) (fun _ _ _ h => h) (Or.inr ⟨by rfl, rfl⟩) hHeld ?_) | (refine wpAnyH_ready (rs := [22]) (by kernel_rfl) (by simp) ?_; refine AllReadyH.cons rfl (fun K hK => ?_) AllReadyH.nil; go_simp; (first | (go_at_call 15; refine (C1.out _).mono ?_; rintro t w' ⟨rfl, hb⟩) | (go_at_call 16; refine (C2.out _).mono ?_; rintro t w' ⟨rfl, hb⟩) | (go_at_call 17; with_reducible refine (C3.out _).mono ?_; rintro t w' ⟨rfl, hb⟩) | (go_at_call 17; with_reducible refine (C4.out _).mono ?_; rintro t w' ⟨rfl, hb⟩) | (go_at_call 5; refine (C5.out _ hHeld.2.1).mono ?_; rintro t w' ⟨rfl, hb⟩)); (try go_wp2_with fail); refine hK.out _ _ ?_ (fun hHeld' => ?_); (focus (exact hkeep _ _ hb hHeld)); clear hK K; replace hHeld := hHeld'; clear hHeld')
  try simp only [Act.put, List.getElem_toArray, List.getElem_cons_succ, List.getElem_cons_zero, List.setIfInBounds_toArray, List.set_cons_zero, List.set_cons_succ]
  (refine wpAnyH_take (i := 23) (v := ?_) rfl (by kernel_rfl) (by kernel_rfl) (by kernel_rfl) (fun _ _ _ h => h) (Or.inl ⟨by rfl, ?_⟩) hHeld ?_; rotate_left; focus (intro w hSw; (try dsimp only at hSw); go_simp; (try with_reducible rfl)))
  try simp only [Act.put, List.getElem_toArray, List.getElem_cons_succ, List.getElem_cons_zero, List.setIfInBounds_toArray, List.set_cons_zero, List.set_cons_succ]
  (refine wpAnyH_take (i := 24) (v := ?_) rfl (by kernel_rfl) (by kernel_rfl) (by kernel_rfl) (fun _ _ _ h => h) (Or.inl ⟨by rfl, ?_⟩) hHeld ?_; rotate_left; focus (intro w hSw; (try dsimp only at hSw); go_simp; (try with_reducible rfl)))
  try simp only [Act.put, List.getElem_toArray, List.getElem_cons_succ, List.getElem_cons_zero, List.setIfInBounds_toArray, List.set_cons_zero, List.set_cons_succ]
  refine wpAnyH_done (by kernel_rfl) ?_ _
  refine NoPanic.normal ?_
  have hb := HBB.out _ hHeld
  have HBF := Lib.hid hb
  clear hHeld hb
  go_wp2_with fail
  go_ret
  exact ⟨rfl, by rw [HZ.out]; exact HBF.out⟩
theorem callFits_walk (op l key pa pb hd r : Int) (x y : Ans) (hh : 0 ≤ x.h) (w : World) (ht : TabW w) :
    Calls Tryd.prog 4 #[.agg (callC op l key pa pb hd r), .agg x.cells, .agg y.cells] w fun t w' => t = .returned (.bool true) ∧ Below w.heap.size w w' :=
  callFits_walk' op l key pa pb hd r x.e x.a x.b x.h x.n x.k y.e y.a y.b y.h y.n y.k hh w ht
end Go.Proofs.YthhheeocanbkiaaDoor
