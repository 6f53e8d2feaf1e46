/- The document's Without; the law's example. -/
import Derived.Test.YtfklbbjmjkojjaaLineP3
import Derived.Test.YtfklbbjmjkojjaaLineI3
namespace Go.Proofs.Ytfklbbjmjkojjaa
open Go.ChangeShapes Go.WideShapes Go.ChangeAt Go.RowKit

theorem own_at2 {w w' : World} {base size n : Nat} {v : Value} {e : TypeId} {cs : List Value} (h : w.ownsRow base e size v n cs) (hb : Below w.heap.size w w') : w'.ownsRow base e size v n cs := by
  refine ⟨h.1, ?_⟩
  rcases h.2 with h | ⟨g, cap, cur, h1, h2, h3, h4⟩
  · exact .inl h
  · exact .inr ⟨g, cap, cur, h1, h2, (hb.block g (Array.getElem?_eq_some_iff.1 h3).1).trans h3, h4⟩

theorem refWithout_nil (A : Option Addr) (c : Nat) (w : World) : Calls Try.prog 10 #[.slice A 0 c] w fun e w' => e = .returned (.tuple #[.slice A 0 c, .agg #[.int .u64 0, .int .u64 0], .bool false]) ∧ Below w.heap.size w w' := by
  have hx := Cells.new w #[.int .u64 0, .int .u64 0] 29
  have hb : Below w.heap.size w (w.alloc (.cells #[.int .u64 0, .int .u64 0] 29)) := (Below.refl _ w).alloc (Nat.le_refl _) _
  have H := Lib.hid (And.intro hb hx); clear hb hx
  go_enter Try.func10, Try.ntmps10
  go_wp2_with fail
  have z0 := H.out.2.cell0
  have z1 := H.out.2.cell1
  refine bodyPost_ret (v := .tuple #[.slice A 0 c, .agg #[.int .u64 0, .int .u64 0], .bool false]) (by simp [results, Try.results10, go_sem, z0, z1]) rfl ⟨rfl, ?_⟩
  exact H.out.1

theorem grown_far {W w' : World} {h b off : Nat} {a0 a1 z0 z1 : Value} (hgrow : W.grownBy w' (some (h + 1))) (hb : b < h) (p0 : W.cell? ⟨b, off, none⟩ = some a0) (p1 : W.cell? ⟨b, off + 1, none⟩ = some a1) (hx : Cells W h 29 [z0, z1]) :
    w'.cell? ⟨b, off, none⟩ = some a0 ∧ w'.cell? ⟨b, off + 1, none⟩ = some a1 ∧ Cells w' h 29 [z0, z1] :=
  ⟨hgrow.cell p0 (by show some b ≠ some (h + 1); simp; omega), hgrow.cell p1 (by show some b ≠ some (h + 1); simp; omega), (hgrow.block h hx.lt (by simp)).trans hx⟩
theorem set2_cells {w' : World} {h : Nat} {z0 z1 : Value} (hy : Cells w' h 29 [z0, z1]) (a b : Value) :
    ((w'.setCell ⟨h, 0, none⟩ a).setCell ⟨h, 1, none⟩ b).cell? ⟨h, 0, none⟩ = some a ∧ ((w'.setCell ⟨h, 0, none⟩ a).setCell ⟨h, 1, none⟩ b).cell? ⟨h, 1, none⟩ = some b := by
  have e := (hy.set_ 0 a).set_ 1 b
  exact ⟨e.cell0, e.cell1⟩
theorem set2_keep {w w' : World} {n : Nat} {v : Value} {cs : List Value} (hb : Below w.heap.size w w') (hl : LnIs w' v n cs) (hf : Far (w.heap.size + 1) v) (a b : Value) :
    LnIs ((w'.setCell ⟨w.heap.size, 0, none⟩ a).setCell ⟨w.heap.size, 1, none⟩ b) v n cs ∧ Below w.heap.size w ((w'.setCell ⟨w.heap.size, 0, none⟩ a).setCell ⟨w.heap.size, 1, none⟩ b) :=
  ⟨hl.only (((Only.refl (fun i => i = w.heap.size) w').setCell (p := ⟨w.heap.size, 0, none⟩) rfl _).setCell (p := ⟨w.heap.size, 1, none⟩) rfl _) (fun k hk e => by have := hf k hk; omega), (hb.setCell (p := ⟨w.heap.size, 0, none⟩) (Nat.le_refl _) _).setCell (p := ⟨w.heap.size, 1, none⟩) (Nat.le_refl _) _⟩
theorem lit_is {W : World} {h : Nat} (h1 : h < W.heap.size) : LnIs W (.slice (some ⟨h, 0, none⟩) 0 0) 0 (flatP []) :=
  ⟨_, _, rfl, Nat.le_refl _, by unfold maxLen; omega, (fun e => by cases e), .inl rfl, fun a e => by cases e; exact h1⟩
theorem refWithout_some (b off c : Nat) (x : Pr) (M : List Pr) (hL : M.length ≤ 900000) (hc : M.length + 1 ≤ c) (hcm : c ≤ maxLen) (w : World) (hA : LiesC w (some ⟨b, off, none⟩) (flatP (x :: M))) :
    Calls Try.prog 10 #[.slice (some ⟨b, off, none⟩) (M.length + 1) c] w fun e w' => ∃ v, e = .returned (.tuple #[v, .agg #[.int .u64 (x.a : Nat), .int .u64 (x.b : Nat)], .bool true]) ∧ LnIs w' v M.length (flatP M) ∧ Far w.heap.size v ∧ (∃ g cap, v = .slice (some ⟨g, 0, none⟩) M.length cap) ∧ Below w.heap.size w w' := by
  obtain ⟨i0, hi0, hz0, hz1, hz3⟩ := infoP
  obtain ⟨W, hW⟩ : ∃ W, ((w.alloc (.cells #[.int .u64 0, .int .u64 0] 29)).alloc (.cells #[] 29)).drew = W := ⟨_, rfl⟩
  have hx1 : Cells W w.heap.size 29 [.int .u64 0, .int .u64 0] := by
    rw [← hW]
    exact ((Cells.new w #[.int .u64 0, .int .u64 0] 29).alloc _).drew
  have hown0 : W.ownsRow (w.heap.size + 1) 29 2 (.slice (some ⟨w.heap.size + 1, 0, none⟩) 0 0) 0 [] := by
    rw [← hW]
    have := World.ownsRow_lit (base := w.heap.size + 1) (e := 29) (size := 2) (w.alloc (.cells #[.int .u64 0, .int .u64 0] 29)) #[] 0 (by simp) (by decide) rfl
    rw [World.size_alloc] at this
    exact own_at2 this (Below.refl _ _).drew
  have hbW : Below w.heap.size w W := by
    rw [← hW]
    exact (((Below.refl _ w).alloc (Nat.le_refl _) _).alloc (by simp) _).drew
  have hlW := hA.keep hbW
  have hsz : w.heap.size + 1 ≤ W.heap.size := hx1.lt
  obtain ⟨b', off', e, hblt, hcx⟩ := hA.some_ (by rw [flatP_length]; simp)
  cases e
  have p0 := hcx 0 _ rfl
  have p1 := hcx 1 _ rfl
  rw [Nat.add_zero] at p0
  have p0' := cell_keep (hbW.mono (by omega)) p0
  have p1' := cell_keep (hbW.mono (by omega)) p1
  have q0 := hx1.cell0
  have q1 := hx1.cell1
  have q2 := hx1.frozen 0
  have q3 := hx1.frozen 1
  have hM := flatP_length M
  generalize hn : M.length = n at *
  have H := Lib.hid (And.intro hx1 (And.intro hown0 (And.intro hbW (And.intro hlW (And.intro hsz (And.intro hblt (And.intro p0 p1)))))))
  clear hx1 hown0 hbW hlW hsz hcx
  have t1 : (1 : Int) ≤ (n : Int) + 1 := by omega
  by_cases h0 : n = 0
  · subst h0
    obtain rfl : M = [] := List.eq_nil_of_length_eq_zero hn
    by_cases h1 : c = 1
    all_goals
      (try subst h1)
      go_enter Try.func10, Try.ntmps10
      go_upto_region 3 with fail
      go_region
      all_goals
        obtain ⟨z0, z1⟩ := set2_cells H.out.1 (.int .u64 (x.a : Nat)) (.int .u64 (x.b : Nat))
        go_wp2_with fail
        refine bodyPost_ret (v := .tuple #[.slice (some ⟨w.heap.size + 1, 0, none⟩) 0 0, .agg #[.int .u64 (x.a : Nat), .int .u64 (x.b : Nat)], .bool true]) (by simp [results, Try.results10, go_sem, z0, z1]) rfl ⟨_, rfl, ?_⟩
        have hs : w.heap.size + 1 < W.heap.size := by rw [← hW]; simp
        obtain ⟨r1, r2⟩ := set2_keep H.out.2.2.1 (lit_is hs) (fun k hk => by cases hk; exact Nat.le_refl _) (.int .u64 (x.a : Nat)) (.int .u64 (x.b : Nat))
        exact ⟨r1, fun k hk => by cases hk; show w.heap.size ≤ w.heap.size + 1; omega, ⟨_, _, rfl⟩, r2⟩
  · have HN : Hid (∀ j u, (flatP M)[j]? = some u → W.cell? ((⟨b, off + 2, none⟩ : Addr).add j) = some u) := Lib.hid (fun j u hj => (H.out.2.2.2.1.drop (k := 2)).news j u hj)
    have h1 : ¬ c = 1 := by omega
    go_enter Try.func10, Try.ntmps10
    go_upto_region 3 with fail
    go_region_law (refine step_append_lies _ rfl _ _ 22 rfl (w.heap.size + 1) 29 i0 (.agg #[.int .u64 0, .int .u64 0]) 2 16 Try.underlying22 hi0 hz0 hz1 hz3 rfl (by decide) (.slice (some ⟨w.heap.size + 1, 0, none⟩) 0 0) 0 [] rfl H.out.2.1 ⟨b, off + 2, none⟩ n (c - 1) (flatP M) rfl hM HN.out (flatP_one M) (by omega) (by unfold maxLen; omega) (by omega) H.out.2.2.2.2.1 _ rfl ?_; intro g cap w' hown hgrow hgg hglt; have gf := grown_far hgrow hblt p0' p1' H.out.1; have g0 := gf.1; have g1 := gf.2.1; have y0 := gf.2.2.cell0; have y1 := gf.2.2.cell1; have y2 := gf.2.2.frozen 0; have y3 := gf.2.2.frozen 1)
    all_goals
      rw [Nat.zero_add, List.nil_append] at hown
      obtain ⟨z0, z1⟩ := set2_cells gf.2.2 (.int .u64 (x.a : Nat)) (.int .u64 (x.b : Nat))
      go_wp2_with fail
      refine bodyPost_ret (v := .tuple #[.slice (some ⟨g, 0, none⟩) n cap, .agg #[.int .u64 (x.a : Nat), .int .u64 (x.b : Nat)], .bool true]) (by simp [results, Try.results10, go_sem, z0, z1]) rfl ⟨_, rfl, ?_⟩
      have hb' : Below w.heap.size w w' := below_grown H.out.2.2.1 hgrow (by intro k hk; cases hk; show w.heap.size ≤ w.heap.size + 1; omega) (by have := H.out.2.2.2.2.1; omega)
      obtain ⟨r1, r2⟩ := set2_keep hb' (lnIs_of_own hown) (far_of_own hown) (.int .u64 (x.a : Nat)) (.int .u64 (x.b : Nat))
      exact ⟨r1, (far_of_own hown).mono (by omega), ⟨_, _, rfl⟩, r2⟩

theorem lives_any (w : World) : Calls Try.prog 6 #[] w fun e w' => e = .returned (.bool true) ∧ Below w.heap.size w w' := by
  have hb0 : Below w.heap.size w (w.alloc (.cells #[.int .i64 3, .int .i64 4] 3)) := (Below.refl _ w).alloc (Nat.le_refl _) _
  have hx : LiesC (w.alloc (.cells #[.int .i64 3, .int .i64 4] 3)) (some ⟨w.heap.size, 0, none⟩) (flatI [3, 4]) := .inr ⟨_, 0, rfl, by simp, fun j v hj => by
    rw [Nat.zero_add]
    exact ((Cells.new w #[.int .i64 3, .int .i64 4] 3).cell j).trans hj⟩
  have C1 := Lib.hid (lnIOf_any _ 2 [3, 4] (by decide) _ hx)
  have HB := Lib.hid hb0
  clear hx hb0
  go_enter Try.func6, Try.ntmps6
  go_wp2_with (first
    | (go_at_call 16; refine C1.out.mono ?_; rintro e w1 ⟨v, rfl, ⟨A1, c1, rfl, d1, d2, d3, d4, _⟩, _, hb⟩
       have C2 := Lib.hid (lnIPush_any A1 c1 [3, 4] (by decide) d1 d2 d3 5 w1 d4)
       have B1 := Lib.hid (HB.out.trans (hb.mono HB.out.size)); clear hb d1 d2 d3 d4)
    | (go_at_call 17; refine C2.out.mono ?_; rintro e w2 ⟨v, rfl, ⟨A2, c2, rfl, d1, d2, d3, d4, _⟩, _, hb⟩
       have C3 := Lib.hid (lnIPop_some A2 c2 3 [4, 5] (by decide) d1 d2 w2 d4)
       have B2 := Lib.hid (B1.out.trans (hb.mono B1.out.size)); clear hb d1 d2 d3 d4)
    | (go_at_call 21; refine C3.out.mono ?_; rintro e w3 ⟨v, rfl, ⟨A3, c3, rfl, d1, d2, d3, d4, _⟩, _, hb⟩
       have B3 := Lib.hid (B2.out.trans (hb.mono B2.out.size)); clear hb d1 d2 d3 d4)
    | (go_at_call 20; refine (lnILen_any _ _ _ _).mono ?_; rintro e w4 ⟨rfl, hb⟩
       have B4 := Lib.hid ((B3.out.alloc B3.out.size _).trans (hb.mono (by have := B3.out.size; simp; omega))); clear hb))
  go_ret
  exact ⟨rfl, B4.out⟩
end Go.Proofs.Ytfklbbjmjkojjaa
