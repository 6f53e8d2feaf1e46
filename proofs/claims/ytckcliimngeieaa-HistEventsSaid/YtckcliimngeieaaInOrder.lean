/- hist.inOrder. -/
import Derived.Test.YtckcliimngeieaaSpots
import Derived.Test.YtckcliimngeieaaRowSet
namespace Go.Proofs.Ytckcliimngeieaa
open Go.ChangeShapes Go.WideShapes Go.ChangeAt Go.RowKit
set_option linter.unusedSimpArgs false

set_option maxRecDepth 100000 in
set_option maxHeartbeats 2000000 in
theorem inOrder_any (x y : Spt) (w : World) : Calls Try.prog 22 #[.agg (spF x).toArray, .agg (spF y).toArray] w fun e w' => e = .returned (.int .i64 (cmpS x y)) ∧ ∃ q os', w' = Go.Sort.grow (w.drewN q) os' := by
  have hcmp : ∀ (a b : Int) (W : World), Calls Try.prog 31 #[.int .i64 a, .int .i64 b] W fun e w' => e = .returned (.int .i64 (Lib.compareInt a b)) ∧ w' = W := fun a b W => AnyG.cmp_Compare_int Try.laysCmp a b W
  have C := Lib.hid hcmp
  have H := Lib.hid (show cmpS x y = orV (Lib.compareInt x.p y.p) (Lib.compareInt x.k y.k) (Lib.compareInt x.o y.o) from rfl)
  clear hcmp
  go_enter Try.func22, Try.ntmps22
  go_upto_region 1 with fail
  have HG : Hid (∀ o, ((World.alloc (World.alloc w (.cells (spF x).toArray 54)) (.cells (spF y).toArray 54)).drew.alloc o) = Go.Sort.grow (w.drewN 1) #[.cells (spF x).toArray 54, .cells (spF y).toArray 54, o]) := Lib.hid fun o => by
    rw [Go.Sort.alloc_eq_grow, Go.Sort.alloc_eq_grow, Go.Sort.alloc_eq_grow, Go.Sort.drew_grow, Go.Sort.drew_grow, Go.Sort.grow_grow, Go.Sort.grow_grow]
    rfl
  obtain ⟨W, hW⟩ : ∃ W, World.alloc (World.alloc w (.cells (spF x).toArray 54)) (.cells (spF y).toArray 54) = W := ⟨_, rfl⟩
  rw [hW] at HG ⊢
  obtain ⟨hB, hx, hy⟩ := two_cells _ _ _ _ _ W hW
  clear hW hB
  have p0 : W.cell? ⟨w.heap.size, 0, none⟩ = some (.int .i64 x.p) := hx.cell 0
  have p1 : W.cell? ⟨w.heap.size, 1, none⟩ = some (.int .i64 x.k) := hx.cell 1
  have p2 : W.cell? ⟨w.heap.size, 2, none⟩ = some (.int .i64 x.o) := hx.cell 2
  have p3 : W.cell? ⟨w.heap.size + 1, 0, none⟩ = some (.int .i64 y.p) := hy.cell 0
  have p4 : W.cell? ⟨w.heap.size + 1, 1, none⟩ = some (.int .i64 y.k) := hy.cell 1
  have p5 : W.cell? ⟨w.heap.size + 1, 2, none⟩ = some (.int .i64 y.o) := hy.cell 2
  generalize hv1 : (Value.agg (spF x).toArray) = v1
  generalize hv2 : (Value.agg (spF y).toArray) = v2
  clear hx hy hv1 hv2
  generalize x.p = a at *
  generalize x.k = b at *
  generalize x.o = c at *
  generalize y.p = d at *
  generalize y.k = e at *
  generalize y.o = f at *
  generalize hg : w.heap.size = g1 at *
  clear hg
  have HP : Hid (∀ w', Below W.heap.size W w' → w'.cell? ⟨g1, 0, none⟩ = some (.int .i64 a) ∧ w'.cell? ⟨g1, 1, none⟩ = some (.int .i64 b) ∧ w'.cell? ⟨g1, 2, none⟩ = some (.int .i64 c) ∧ w'.cell? ⟨g1 + 1, 0, none⟩ = some (.int .i64 d) ∧ w'.cell? ⟨g1 + 1, 1, none⟩ = some (.int .i64 e) ∧ w'.cell? ⟨g1 + 1, 2, none⟩ = some (.int .i64 f)) := Lib.hid fun W' hb => ⟨cell_keep hb p0, cell_keep hb p1, cell_keep hb p2, cell_keep hb p3, cell_keep hb p4, cell_keep hb p5⟩
  have CO := Lib.hid (fun (u v z : Int) => cOr_any W.drew.heap.size u v z (W.drew.alloc (.cells #[.int .i64 u, .int .i64 v, .int .i64 z] 3)) ((Cells.new W.drew #[.int .i64 u, .int .i64 v, .int .i64 z] 3).cell 0) ((Cells.new W.drew #[.int .i64 u, .int .i64 v, .int .i64 z] 3).cell 1) ((Cells.new W.drew #[.int .i64 u, .int .i64 v, .int .i64 z] 3).cell 2))
  clear p0 p1 p2 p3 p4 p5
  generalize hu1 : Lib.compareInt a d = u1 at *
  generalize hu2 : Lib.compareInt b e = z2 at *
  generalize hu3 : Lib.compareInt c f = z3 at *
  have C1 := Lib.hid (C.out a d)
  have C2 := Lib.hid (C.out b e)
  have C3 := Lib.hid (C.out c f)
  rw [hu1] at C1
  rw [hu2] at C2
  rw [hu3] at C3
  clear C hu1 hu2 hu3
  have CO2 := Lib.hid (CO.out u1 z2 z3)
  clear CO
  refine wp_region_noPanic ?_
  refine wp_region_held_drew (S := fun w' => w'.cell? ⟨g1, 0, none⟩ = some (.int .i64 a) ∧ w'.cell? ⟨g1, 1, none⟩ = some (.int .i64 b) ∧ w'.cell? ⟨g1, 2, none⟩ = some (.int .i64 c) ∧ w'.cell? ⟨g1 + 1, 0, none⟩ = some (.int .i64 d) ∧ w'.cell? ⟨g1 + 1, 1, none⟩ = some (.int .i64 e) ∧ w'.cell? ⟨g1 + 1, 2, none⟩ = some (.int .i64 f)) (by kernel_rfl) (HP.out _ (Below.refl _ _).drew) (fun hHeld => ?_)
  (refine wpAnyH_take (i := 0) (v := ?_) rfl (by kernel_rfl) (by kernel_rfl) (by kernel_rfl) (fun _ _ _ h => h) (Or.inl ⟨by rfl, ?_⟩) hHeld ?_; rotate_left; focus (intro w hSw; (try dsimp only at hSw); go_simp; (try with_reducible rfl)))
  try simp only [Act.put, List.getElem_toArray, List.getElem_cons_succ, List.getElem_cons_zero, List.setIfInBounds_toArray, List.set_cons_zero, List.set_cons_succ]
  (refine wpAnyH_take (i := 1) (v := ?_) rfl (by kernel_rfl) (by kernel_rfl) (by kernel_rfl) (fun _ _ _ h => h) (Or.inl ⟨by rfl, ?_⟩) hHeld ?_; rotate_left; focus (intro w hSw; (try dsimp only at hSw); go_simp; (try with_reducible rfl)))
  try simp only [Act.put, List.getElem_toArray, List.getElem_cons_succ, List.getElem_cons_zero, List.setIfInBounds_toArray, List.set_cons_zero, List.set_cons_succ]
  (refine wpAnyH_take (i := 2) (v := ?_) rfl (by kernel_rfl) (by kernel_rfl) (by kernel_rfl) (fun _ _ _ h => h) (Or.inl ⟨by rfl, ?_⟩) hHeld ?_; rotate_left; focus (intro w hSw; (try dsimp only at hSw); go_simp; (try with_reducible rfl)))
  try simp only [Act.put, List.getElem_toArray, List.getElem_cons_succ, List.getElem_cons_zero, List.setIfInBounds_toArray, List.set_cons_zero, List.set_cons_succ]
  (refine wpAnyH_take (i := 3) (v := ?_) rfl (by kernel_rfl) (by kernel_rfl) (by kernel_rfl) (fun _ _ _ h => h) (Or.inl ⟨by rfl, ?_⟩) hHeld ?_; rotate_left; focus (intro w hSw; (try dsimp only at hSw); go_simp; (try with_reducible rfl)))
  try simp only [Act.put, List.getElem_toArray, List.getElem_cons_succ, List.getElem_cons_zero, List.setIfInBounds_toArray, List.set_cons_zero, List.set_cons_succ]
  (refine wpAnyH_take (i := 5) (v := ?_) rfl (by kernel_rfl) (by kernel_rfl) (by kernel_rfl) (fun _ _ _ h => h) (Or.inl ⟨by rfl, ?_⟩) hHeld ?_; rotate_left; focus (intro w hSw; (try dsimp only at hSw); go_simp; (try with_reducible rfl)))
  try simp only [Act.put, List.getElem_toArray, List.getElem_cons_succ, List.getElem_cons_zero, List.setIfInBounds_toArray, List.set_cons_zero, List.set_cons_succ]
  (refine wpAnyH_take (i := 6) (v := ?_) rfl (by kernel_rfl) (by kernel_rfl) (by kernel_rfl) (fun _ _ _ h => h) (Or.inl ⟨by rfl, ?_⟩) hHeld ?_; rotate_left; focus (intro w hSw; (try dsimp only at hSw); go_simp; (try with_reducible rfl)))
  try simp only [Act.put, List.getElem_toArray, List.getElem_cons_succ, List.getElem_cons_zero, List.setIfInBounds_toArray, List.set_cons_zero, List.set_cons_succ]
  (refine wpAnyH_take (i := 7) (v := ?_) rfl (by kernel_rfl) (by kernel_rfl) (by kernel_rfl) (fun _ _ _ h => h) (Or.inl ⟨by rfl, ?_⟩) hHeld ?_; rotate_left; focus (intro w hSw; (try dsimp only at hSw); go_simp; (try with_reducible rfl)))
  try simp only [Act.put, List.getElem_toArray, List.getElem_cons_succ, List.getElem_cons_zero, List.setIfInBounds_toArray, List.set_cons_zero, List.set_cons_succ]
  (refine wpAnyH_take (i := 8) (v := ?_) rfl (by kernel_rfl) (by kernel_rfl) (by kernel_rfl) (fun _ _ _ h => h) (Or.inl ⟨by rfl, ?_⟩) hHeld ?_; rotate_left; focus (intro w hSw; (try dsimp only at hSw); go_simp; (try with_reducible rfl)))
  try simp only [Act.put, List.getElem_toArray, List.getElem_cons_succ, List.getElem_cons_zero, List.setIfInBounds_toArray, List.set_cons_zero, List.set_cons_succ]
  (refine wpAnyH_take (i := 10) (v := ?_) rfl (by kernel_rfl) (by kernel_rfl) (by kernel_rfl) (fun _ _ _ h => h) (Or.inl ⟨by rfl, ?_⟩) hHeld ?_; rotate_left; focus (intro w hSw; (try dsimp only at hSw); go_simp; (try with_reducible rfl)))
  try simp only [Act.put, List.getElem_toArray, List.getElem_cons_succ, List.getElem_cons_zero, List.setIfInBounds_toArray, List.set_cons_zero, List.set_cons_succ]
  (refine wpAnyH_take (i := 11) (v := ?_) rfl (by kernel_rfl) (by kernel_rfl) (by kernel_rfl) (fun _ _ _ h => h) (Or.inl ⟨by rfl, ?_⟩) hHeld ?_; rotate_left; focus (intro w hSw; (try dsimp only at hSw); go_simp; (try with_reducible rfl)))
  try simp only [Act.put, List.getElem_toArray, List.getElem_cons_succ, List.getElem_cons_zero, List.setIfInBounds_toArray, List.set_cons_zero, List.set_cons_succ]
  (refine wpAnyH_take (i := 12) (v := ?_) rfl (by kernel_rfl) (by kernel_rfl) (by kernel_rfl) (fun _ _ _ h => h) (Or.inl ⟨by rfl, ?_⟩) hHeld ?_; rotate_left; focus (intro w hSw; (try dsimp only at hSw); go_simp; (try with_reducible rfl)))
  try simp only [Act.put, List.getElem_toArray, List.getElem_cons_succ, List.getElem_cons_zero, List.setIfInBounds_toArray, List.set_cons_zero, List.set_cons_succ]
  (refine wpAnyH_take (i := 13) (v := ?_) rfl (by kernel_rfl) (by kernel_rfl) (by kernel_rfl) (fun _ _ _ h => h) (Or.inl ⟨by rfl, ?_⟩) hHeld ?_; rotate_left; focus (intro w hSw; (try dsimp only at hSw); go_simp; (try with_reducible rfl)))
  try simp only [Act.put, List.getElem_toArray, List.getElem_cons_succ, List.getElem_cons_zero, List.setIfInBounds_toArray, List.set_cons_zero, List.set_cons_succ]
  (refine wpAnyH_ready (rs := [4]) (by kernel_rfl) (by simp) ?_; refine AllReadyH.cons rfl (fun K hK => ?_) AllReadyH.nil; go_simp; (first | (go_at_call 31; (first | (with_reducible refine (C1.out _).mono ?_) | (with_reducible refine (C2.out _).mono ?_) | (with_reducible refine (C3.out _).mono ?_)); rintro r w5 ⟨rfl, rfl⟩) | (go_at_call 30; refine CO2.out.mono ?_; rintro r w5 ⟨rfl, rfl⟩)); (try go_wp2_with fail); refine hK.out _ _ ?_ (fun hHeld' => ?_); (focus ((first | exact hHeld | exact HP.out _ ((Below.refl _ _).drew.alloc (by show W.heap.size ≤ W.heap.size; exact Nat.le_refl _) _)))); clear hK K; replace hHeld := hHeld'; clear hHeld')
  try simp only [Act.put, List.getElem_toArray, List.getElem_cons_succ, List.getElem_cons_zero, List.setIfInBounds_toArray, List.set_cons_zero, List.set_cons_succ]
  (refine wpAnyH_ready (rs := [9]) (by kernel_rfl) (by simp) ?_; refine AllReadyH.cons rfl (fun K hK => ?_) AllReadyH.nil; go_simp; (first | (go_at_call 31; (first | (with_reducible refine (C1.out _).mono ?_) | (with_reducible refine (C2.out _).mono ?_) | (with_reducible refine (C3.out _).mono ?_)); rintro r w5 ⟨rfl, rfl⟩) | (go_at_call 30; refine CO2.out.mono ?_; rintro r w5 ⟨rfl, rfl⟩)); (try go_wp2_with fail); refine hK.out _ _ ?_ (fun hHeld' => ?_); (focus ((first | exact hHeld | exact HP.out _ ((Below.refl _ _).drew.alloc (by show W.heap.size ≤ W.heap.size; exact Nat.le_refl _) _)))); clear hK K; replace hHeld := hHeld'; clear hHeld')
  try simp only [Act.put, List.getElem_toArray, List.getElem_cons_succ, List.getElem_cons_zero, List.setIfInBounds_toArray, List.set_cons_zero, List.set_cons_succ]
  (refine wpAnyH_ready (rs := [14]) (by kernel_rfl) (by simp) ?_; refine AllReadyH.cons rfl (fun K hK => ?_) AllReadyH.nil; go_simp; (first | (go_at_call 31; (first | (with_reducible refine (C1.out _).mono ?_) | (with_reducible refine (C2.out _).mono ?_) | (with_reducible refine (C3.out _).mono ?_)); rintro r w5 ⟨rfl, rfl⟩) | (go_at_call 30; refine CO2.out.mono ?_; rintro r w5 ⟨rfl, rfl⟩)); (try go_wp2_with fail); refine hK.out _ _ ?_ (fun hHeld' => ?_); (focus ((first | exact hHeld | exact HP.out _ ((Below.refl _ _).drew.alloc (by show W.heap.size ≤ W.heap.size; exact Nat.le_refl _) _)))); clear hK K; replace hHeld := hHeld'; clear hHeld')
  try simp only [Act.put, List.getElem_toArray, List.getElem_cons_succ, List.getElem_cons_zero, List.setIfInBounds_toArray, List.set_cons_zero, List.set_cons_succ]
  (refine wpAnyH_ready (rs := [15]) (by kernel_rfl) (by simp) ?_; refine AllReadyH.cons rfl (fun K hK => ?_) AllReadyH.nil; go_simp; skip; (try go_wp2_with fail); refine hK.out _ _ ?_ (fun hHeld' => ?_); (focus ((first | exact hHeld | exact HP.out _ ((Below.refl _ _).drew.alloc (by show W.heap.size ≤ W.heap.size; exact Nat.le_refl _) _)))); clear hK K; replace hHeld := hHeld'; clear hHeld')
  try simp only [Act.put, List.getElem_toArray, List.getElem_cons_succ, List.getElem_cons_zero, List.setIfInBounds_toArray, List.set_cons_zero, List.set_cons_succ]
  (refine wpAnyH_ready (rs := [16]) (by kernel_rfl) (by simp) ?_; refine AllReadyH.cons rfl (fun K hK => ?_) AllReadyH.nil; go_simp; (first | (go_at_call 31; (first | (with_reducible refine (C1.out _).mono ?_) | (with_reducible refine (C2.out _).mono ?_) | (with_reducible refine (C3.out _).mono ?_)); rintro r w5 ⟨rfl, rfl⟩) | (go_at_call 30; refine CO2.out.mono ?_; rintro r w5 ⟨rfl, rfl⟩)); (try go_wp2_with fail); refine hK.out _ _ ?_ (fun hHeld' => ?_); (focus ((first | exact hHeld | exact HP.out _ ((Below.refl _ _).drew.alloc (by show W.heap.size ≤ W.heap.size; exact Nat.le_refl _) _)))); clear hK K; replace hHeld := hHeld'; clear hHeld')
  try simp only [Act.put, List.getElem_toArray, List.getElem_cons_succ, List.getElem_cons_zero, List.setIfInBounds_toArray, List.set_cons_zero, List.set_cons_succ]
  (refine wpAnyH_take (i := 17) (v := ?_) rfl (by kernel_rfl) (by kernel_rfl) (by kernel_rfl) (fun _ _ _ h => h) (Or.inl ⟨by rfl, ?_⟩) hHeld ?_; rotate_left; focus (intro w hSw; (try dsimp only at hSw); go_simp; (try with_reducible rfl)))
  try simp only [Act.put, List.getElem_toArray, List.getElem_cons_succ, List.getElem_cons_zero, List.setIfInBounds_toArray, List.set_cons_zero, List.set_cons_succ]
  refine wpAnyH_done (by kernel_rfl) ?_ _
  refine NoPanic.normal ?_
  go_wp2_with fail
  go_ret
  exact ⟨by rw [H.out]; rfl, 1, _, HG.out (.cells #[.int .i64 u1, .int .i64 z2, .int .i64 z3] 3)⟩
end Go.Proofs.Ytckcliimngeieaa
