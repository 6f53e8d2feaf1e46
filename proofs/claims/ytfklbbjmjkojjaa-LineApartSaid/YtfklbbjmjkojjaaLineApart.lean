/- The law LineApart. -/
import Derived.Test.YtfklbbjmjkojjaaLineLaws
import Derived.Deep.RegionHeld3
namespace Go.Proofs.Ytfklbbjmjkojjaa
open Go.ChangeShapes Go.WideShapes Go.ChangeAt Go.RowKit

theorem lies_of_row {w : World} {A : Option Addr} {l : List Int} (h : RowIs w A l.length (fun i => .int .i64 (l.getD i 0))) : LiesC w A (flatI l) := by
  by_cases h0 : l.length = 0
  · left; rw [List.eq_nil_of_length_eq_zero h0]; rfl
  · obtain ⟨b, off, rfl, hb, hx⟩ := h (by omega)
    refine .inr ⟨b, off, rfl, hb, fun j v hj => ?_⟩
    have hl : j < l.length := by
      have := (List.getElem?_eq_some_iff.1 hj).1
      rw [flatI_length] at this; omega
    rw [hx j hl, ← hj, flatI_get l j hl]
theorem lineApart_long (A : Option Addr) (c : Nat) (l : List Int) (hL : 100 < l.length) (hM : l.length ≤ 9223372036854775807) (a b : Int) (w : World) :
    Calls Try.prog 4 #[.slice A l.length c, .int .i64 a, .int .i64 b] w fun e w' => e = .returned (.bool true) ∧ Below w.heap.size w w' := by
  have C9 := Lib.hid fun W => lives_any W
  generalize hm : l.length = m at *
  go_enter Try.func4, Try.ntmps4
  go_wp2_with (go_at_call 6; refine (C9.out _).mono ?_; rintro e w' ⟨rfl, hb⟩)
  all_goals first
    | (exfalso; omega)
    | (go_ret; exact ⟨rfl, hb⟩)

/-- A line in a variable of the law's own. -/
def Var (W : World) (B : Nat) (v : Value) (L : List Int) : Prop := LnIs W v L.length (flatI L) ∧ Cells W B 44 [v]
theorem Var.keep {W W' : World} {B : Nat} {v : Value} {L : List Int} (h : Var W B v L) (hb : Below W.heap.size W W') : Var W' B v L := ⟨h.1.keep hb, h.2.keep hb⟩
theorem Var.new {W : World} {v : Value} {L : List Int} (h : LnIs W v L.length (flatI L)) : Var (W.alloc (.cells #[v] 44)) W.heap.size v L :=
  ⟨h.keep ((Below.refl _ _).alloc (Nat.le_refl _) _), Cells.new W #[v] _⟩
theorem Var.lies {W : World} {B n c : Nat} {A : Option Addr} {L : List Int} (h : Var W B (.slice A n c) L) : LiesC W A (flatI L) := by
  obtain ⟨_, _, e, _, _, _, x, _⟩ := h.1; cases e; exact x
theorem Var.parts {W : World} {B n c : Nat} {A : Option Addr} {L : List Int} (h : Var W B (.slice A n c) L) : n ≤ c ∧ c ≤ maxLen ∧ (A = none → c = 0) ∧ LiesC W A (flatI L) := by
  obtain ⟨_, _, e, x1, x2, x3, x4, _⟩ := h.1
  cases e
  exact ⟨x1, x2, x3, x4⟩
/-- The last one of a line lies behind the others. -/
theorem last_at {W : World} {A : Option Addr} {l : List Int} {a : Int} {m : Nat} (h : LiesC W A (flatI (l ++ [a]))) (hm : l.length = m) : ∃ b off, A = some ⟨b, off, none⟩ ∧ W.cell? ⟨b, off + m, none⟩ = some (.int .i64 a) := by
  obtain ⟨b, off, rfl, -, hc⟩ := h.some_ (by rw [flatI_length]; simp)
  refine ⟨b, off, rfl, hc m _ ?_⟩
  rw [flatI_append, List.getElem?_append_right (by rw [flatI_length]; omega), flatI_length, hm]
  simp [flatI]
theorem same_ends (l : List Int) (a b : Int) : decide (l ++ [a] = l ++ [b]) = decide (a = b) := by
  apply decide_eq_decide.2
  simp

structure ApartR (w W : World) (g1 g2 g3 m : Nat) (A1 A2 A3 : Option Addr) (c1 c2 c3 : Nat) (l : List Int) (a b : Int) : Prop where
  one : Var W g1 (.slice A1 m c1) l
  two : Var W g2 (.slice A2 (m + 1) c2) (l ++ [a])
  thr : Var W g3 (.slice A3 (m + 1) c3) (l ++ [b])
  bel : Below w.heap.size w W
def ApartS (w W : World) (g1 g2 g3 m : Nat) (A1 A2 A3 : Option Addr) (c1 c2 c3 : Nat) (l : List Int) (a b : Int) : Prop :=
  ApartR w W g1 g2 g3 m A1 A2 A3 c1 c2 c3 l a b ∧ W.cell? ⟨g2, 0, none⟩ = some (.slice A2 (m + 1) c2) ∧ W.cell? ⟨g3, 0, none⟩ = some (.slice A3 (m + 1) c3)
theorem ApartR.S {w W : World} {g1 g2 g3 m : Nat} {A1 A2 A3 : Option Addr} {c1 c2 c3 : Nat} {l : List Int} {a b : Int} (h : ApartR w W g1 g2 g3 m A1 A2 A3 c1 c2 c3 l a b) : ApartS w W g1 g2 g3 m A1 A2 A3 c1 c2 c3 l a b := ⟨h, h.two.2.cell0, h.thr.2.cell0⟩
theorem ApartR.keep {w W W' : World} {g1 g2 g3 m : Nat} {A1 A2 A3 : Option Addr} {c1 c2 c3 : Nat} {l : List Int} {a b : Int} (h : ApartR w W g1 g2 g3 m A1 A2 A3 c1 c2 c3 l a b) (hb : Below W.heap.size W W') : ApartR w W' g1 g2 g3 m A1 A2 A3 c1 c2 c3 l a b :=
  ⟨h.one.keep hb, h.two.keep hb, h.thr.keep hb, h.bel.trans (hb.mono h.bel.size)⟩
set_option maxHeartbeats 2000000 in
theorem lineApart_short (A : Option Addr) (c : Nat) (l : List Int) (hL : l.length ≤ 100) (a b : Int) (w : World) (hA : LiesC w A (flatI l)) :
    Calls Try.prog 4 #[.slice A l.length c, .int .i64 a, .int .i64 b] w fun e w' => e = .returned (.bool true) ∧ Below w.heap.size w w' := by
  have C9 := Lib.hid fun W => lives_any W
  have C1 := Lib.hid (lnIOf_any A c l (by omega) w hA)
  have C2 := Lib.hid fun A' c' W h1 h2 h3 h4 => lnIPush_any A' c' l (by omega) h1 h2 h3 a W h4
  have C3 := Lib.hid fun A' c' W h1 h2 h3 h4 => lnIPush_any A' c' l (by omega) h1 h2 h3 b W h4
  have hl1 : (l ++ [a]).length = l.length + 1 := by simp
  have hl2 : (l ++ [b]).length = l.length + 1 := by simp
  have C4 := Lib.hid fun A' c' W h => lnIAll_any A' c' (l ++ [a]) (by omega) W h
  have C5 := Lib.hid fun A' c' W h => lnIAll_any A' c' (l ++ [b]) (by omega) W h
  have C6 := Lib.hid fun A1 c1 A2 c2 W h1 h2 => lnISame_any A1 A2 c1 c2 (l ++ [a]) (l ++ [b]) (by omega) (by omega) W h1 h2
  have C7 := Lib.hid fun A1 c1 W => lnILen_any A1 l.length c1 W
  rw [hl1] at C4 C6
  rw [hl2] at C5 C6
  rw [same_ends] at C6
  have HL := Lib.hid (And.intro hl1 hl2)
  clear hl1 hl2
  generalize hm : l.length = m at *
  have HM := Lib.hid hm; clear hm hA
  go_enter Try.func4, Try.ntmps4
  go_upto_region 4 with (go_at_call 16; refine C1.out.mono ?_; rintro e w1 ⟨v, rfl, h1, -, hb⟩; have H1 := Lib.hid (And.intro h1 hb); obtain ⟨A1, c1, rfl, -⟩ := h1; clear hb)
  obtain ⟨W1, hW1⟩ : ∃ W1, w1.alloc (.cells #[.slice A1 m c1] 44) = W1 := ⟨_, rfl⟩
  have V1 : Var W1 w1.heap.size (.slice A1 m c1) l := by rw [← hW1]; exact Var.new (by rw [HM.out]; exact H1.out.1)
  have B1 : Below w.heap.size w W1 := by rw [← hW1]; exact H1.out.2.alloc H1.out.2.size _
  rw [hW1]
  clear hW1 H1
  generalize w1.heap.size = g1 at *
  clear w1
  have q1 := V1.2.cell0
  have R1 := Lib.hid (And.intro V1 B1); clear V1 B1
  obtain ⟨x1, x2, x3, x4⟩ := R1.out.1.parts
  have P1 := Lib.hid (C2.out A1 c1 W1 x1 x2 x3 x4)
  go_upto_region 5 with (go_at_call 17; refine P1.out.mono ?_; rintro e w2 ⟨v, rfl, h1, -, hb⟩; have H1 := Lib.hid (And.intro h1 hb); obtain ⟨A2, c2, rfl, -⟩ := h1; clear hb q1)
  obtain ⟨W2, hW2⟩ : ∃ W2, w2.alloc (.cells #[.slice A2 (m + 1) c2] 44) = W2 := ⟨_, rfl⟩
  have V2 : Var W2 w2.heap.size (.slice A2 (m + 1) c2) (l ++ [a]) := by rw [← hW2]; exact Var.new (by rw [HL.out.1]; exact H1.out.1)
  have B2 : Below W1.heap.size W1 W2 := by rw [← hW2]; exact H1.out.2.alloc H1.out.2.size _
  rw [hW2]
  clear hW2 H1
  generalize w2.heap.size = g2 at *
  clear w2
  have R2 := Lib.hid (And.intro (R1.out.1.keep B2) (And.intro V2 (R1.out.2.trans (B2.mono R1.out.2.size)))); clear V2 B2 P1
  have q1 := R2.out.1.2.cell0
  have P2 := Lib.hid (C3.out A1 c1 W2 x1 x2 x3 R2.out.1.lies)
  go_upto_region 6 with (go_at_call 17; refine P2.out.mono ?_; rintro e w3 ⟨v, rfl, h1, -, hb⟩; have H1 := Lib.hid (And.intro h1 hb); obtain ⟨A3, c3, rfl, -⟩ := h1; clear hb q1)
  obtain ⟨W3, hW3⟩ : ∃ W3, w3.alloc (.cells #[.slice A3 (m + 1) c3] 44) = W3 := ⟨_, rfl⟩
  have V3 : Var W3 w3.heap.size (.slice A3 (m + 1) c3) (l ++ [b]) := by rw [← hW3]; exact Var.new (by rw [HL.out.2]; exact H1.out.1)
  have B3 : Below W2.heap.size W2 W3 := by rw [← hW3]; exact H1.out.2.alloc H1.out.2.size _
  rw [hW3]
  clear hW3 H1
  generalize w3.heap.size = g3 at *
  clear w3
  have R3 : ApartR w W3 g1 g2 g3 m A1 A2 A3 c1 c2 c3 l a b := ⟨R2.out.1.keep B3, R2.out.2.1.keep B3, V3, R2.out.2.2.trans (B3.mono R2.out.2.2.size)⟩
  clear V3 B3 P2 x1 x2 x3 x4 R1 R2
  have HR := Lib.hid R3; clear R3
  have hkeep : ∀ W W', Below W.heap.size W W' → ApartR w W g1 g2 g3 m A1 A2 A3 c1 c2 c3 l a b → ApartR w W' g1 g2 g3 m A1 A2 A3 c1 c2 c3 l a b := fun W W' hb h => h.keep hb
  have hkS : ∀ W W', Below W.heap.size W W' → ApartS w W g1 g2 g3 m A1 A2 A3 c1 c2 c3 l a b → ApartS w W' g1 g2 g3 m A1 A2 A3 c1 c2 c3 l a b := fun W W' hb h => (h.1.keep hb).S
  have HST : Hid (ApartS w W3.drew g1 g2 g3 m A1 A2 A3 c1 c2 c3 l a b) := Lib.hid (HR.out.keep (Below.refl _ _).drew).S
  unfold ApartS at HST hkS
  refine wp_region_noPanic ?_
  refine wp_region_held_drew (S := fun w' => ApartR w w' g1 g2 g3 m A1 A2 A3 c1 c2 c3 l a b ∧ w'.cell? ⟨g2, 0, none⟩ = some (.slice A2 (m + 1) c2) ∧ w'.cell? ⟨g3, 0, none⟩ = some (.slice A3 (m + 1) c3)) (by kernel_rfl) (HST.out) (fun hHeld => ?_)
  (refine wpAnyH_take (i := 0) (v := ?_) rfl (by kernel_rfl) (by kernel_rfl) (by kernel_rfl) (fun _ _ _ h => h) (Or.inl ⟨by rfl, ?_⟩) hHeld ?_; rotate_left; focus (intro w hSw; (try dsimp only at hSw); go_simp; (try with_reducible rfl)))
  try simp only [Act.put, List.getElem_toArray, List.getElem_cons_succ, List.getElem_cons_zero, List.setIfInBounds_toArray, List.set_cons_zero, List.set_cons_succ]
  (refine wpAnyH_take (i := 2) (v := ?_) rfl (by kernel_rfl) (by kernel_rfl) (by kernel_rfl) (fun _ _ _ h => h) (Or.inl ⟨by rfl, ?_⟩) hHeld ?_; rotate_left; focus (intro w hSw; (try dsimp only at hSw); go_simp; (try with_reducible rfl)))
  try simp only [Act.put, List.getElem_toArray, List.getElem_cons_succ, List.getElem_cons_zero, List.setIfInBounds_toArray, List.set_cons_zero, List.set_cons_succ]
  (refine wpAnyH_ready (rs := [1]) (by kernel_rfl) (by simp) ?_; refine AllReadyH.cons rfl (fun K hK => ?_) AllReadyH.nil; go_simp; (first | (go_at_call 18; with_reducible refine (C4.out A2 c2 _ hHeld.1.two.lies).mono ?_; rintro e w4 ⟨v4, rfl, h4, -, hb⟩; have HB4 := Lib.hid hb) | (go_at_call 18; with_reducible refine (C5.out A3 c3 _ hHeld.1.thr.lies).mono ?_; rintro e w5 ⟨v5, rfl, h5, -, hb⟩; have H5 := Lib.hid (And.intro (HB4.out.trans (hb.mono HB4.out.size)) (And.intro (h4.keep hb) h5)))); (try go_wp2_with fail); refine hK.out _ _ ?_ (fun hHeld' => ?_); (focus (exact hkS _ _ hb hHeld)); clear hK K; replace hHeld := hHeld'; clear hHeld')
  try simp only [Act.put, List.getElem_toArray, List.getElem_cons_succ, List.getElem_cons_zero, List.setIfInBounds_toArray, List.set_cons_zero, List.set_cons_succ]
  (refine wpAnyH_ready (rs := [3]) (by kernel_rfl) (by simp) ?_; refine AllReadyH.cons rfl (fun K hK => ?_) AllReadyH.nil; go_simp; (first | (go_at_call 18; with_reducible refine (C4.out A2 c2 _ hHeld.1.two.lies).mono ?_; rintro e w4 ⟨v4, rfl, h4, -, hb⟩; have HB4 := Lib.hid hb) | (go_at_call 18; with_reducible refine (C5.out A3 c3 _ hHeld.1.thr.lies).mono ?_; rintro e w5 ⟨v5, rfl, h5, -, hb⟩; have H5 := Lib.hid (And.intro (HB4.out.trans (hb.mono HB4.out.size)) (And.intro (h4.keep hb) h5)))); (try go_wp2_with fail); refine hK.out _ _ ?_ (fun hHeld' => ?_); (focus (exact hkS _ _ hb hHeld)); clear hK K; replace hHeld := hHeld'; clear hHeld')
  try simp only [Act.put, List.getElem_toArray, List.getElem_cons_succ, List.getElem_cons_zero, List.setIfInBounds_toArray, List.set_cons_zero, List.set_cons_succ]
  (refine wpAnyH_take (i := 4) (v := ?_) rfl (by kernel_rfl) (by kernel_rfl) (by kernel_rfl) (fun _ _ _ h => h) (Or.inl ⟨by rfl, ?_⟩) hHeld ?_; rotate_left; focus (intro w hSw; (try dsimp only at hSw); go_simp; (try with_reducible rfl)))
  try simp only [Act.put, List.getElem_toArray, List.getElem_cons_succ, List.getElem_cons_zero, List.setIfInBounds_toArray, List.set_cons_zero, List.set_cons_succ]
  (refine wpAnyH_take (i := 5) (v := ?_) rfl (by kernel_rfl) (by kernel_rfl) (by kernel_rfl) (fun _ _ _ h => h) (Or.inl ⟨by rfl, ?_⟩) hHeld ?_; rotate_left; focus (intro w hSw; (try dsimp only at hSw); go_simp; (try with_reducible rfl)))
  try simp only [Act.put, List.getElem_toArray, List.getElem_cons_succ, List.getElem_cons_zero, List.setIfInBounds_toArray, List.set_cons_zero, List.set_cons_succ]
  refine wpAnyH_done (by kernel_rfl) ?_ _
  refine NoPanic.normal ?_
  have R5 := HR.out.keep ((Below.refl _ _).drew.trans H5.out.1)
  clear h4 h5 hb HB4 HST hkS hkeep C1 C2 C3 C4 C5
  obtain ⟨A4, c4, rfl, y1, y2, y3, y4, -⟩ := H5.out.2.1
  obtain ⟨A5, c5, rfl, z1, z2, z3, z4, -⟩ := H5.out.2.2
  obtain ⟨b4, o4, rfl, hx4⟩ := last_at y4 HM.out
  obtain ⟨b5, o5, rfl, hx5⟩ := last_at z4 HM.out
  have k1 := R5.one.2.cell0
  have k2 := R5.two.2.cell0
  have k3 := R5.thr.2.cell0
  have HR5 := Lib.hid R5
  clear R5 H5 y4 z4 HR y3 z3
  have hwr : IntKind.i64.wrap ((m : Int) + 1) = (m : Int) + 1 := by rw [IntKind.wrap_i64]; omega
  have hlt : (m : Int) < (m : Int) + 1 := by omega
  have hge : (0 : Int) ≤ m := by omega
  go_wp2_with (first
    | (go_at_call 19; refine (C6.out A2 c2 A3 c3 _ HR5.out.two.lies HR5.out.thr.lies).mono ?_; rintro e w6 ⟨rfl, hb⟩
       have HR6 := Lib.hid (HR5.out.keep hb); clear hb k1 k2 k3
       have k1 := HR6.out.one.2.cell0)
    | (go_at_call 20; refine (C7.out A1 c1 _).mono ?_; rintro e w7 ⟨rfl, hb⟩
       have HR7 := Lib.hid (HR6.out.keep hb); clear hb k1)
    | (go_at_call 6; refine (C9.out _).mono ?_; rintro e w8 ⟨rfl, hb⟩
       have HR8 := Lib.hid (HR7.out.keep hb); clear hb))
  all_goals first
    | (go_ret; exact ⟨rfl, HR8.out.bel⟩)
    | (exfalso; rename_i h; exact h rfl)

theorem lineApart_walk (A : Option Addr) (c : Nat) (l : List Int) (hM : l.length ≤ 9223372036854775807) (a b : Int) (w : World) (hr : RowIs w A l.length (fun i => .int .i64 (l.getD i 0))) :
    Calls Try.prog 4 #[.slice A l.length c, .int .i64 a, .int .i64 b] w fun e w' => e = .returned (.bool true) ∧ Below w.heap.size w w' := by
  rcases Nat.lt_or_ge 100 l.length with h | h
  · exact lineApart_long A c l h hM a b w
  · exact lineApart_short A c l h a b w (lies_of_row hr)
end Go.Proofs.Ytfklbbjmjkojjaa
