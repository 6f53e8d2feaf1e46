/- Package line, at lines of api.Pair: Pop, Same. -/
import Derived.Test.YtfklbbjmjkojjaaLineP
namespace Go.Proofs.Ytfklbbjmjkojjaa
open Go.ChangeShapes Go.WideShapes Go.ChangeAt Go.RowKit

theorem lnPPop_nil (A : Option Addr) (c : Nat) (w : World) : Calls Try.prog 9 #[.agg #[.slice A 0 c]] w fun e w' => e = .returned (.tuple #[.agg #[.slice A 0 c], (.agg #[.int .u64 0, .int .u64 0]), .bool false]) ∧ Below w.heap.size w w' := by
  obtain ⟨W, hW⟩ : ∃ W, ((w.alloc (.cells #[.slice A 0 c] 25)).alloc (.cells #[.slice none 0 0] 25)).alloc (.cells #[.int .u64 0, .int .u64 0] 29) = W := ⟨_, rfl⟩
  have hx1 : Cells W w.heap.size 25 [.slice A 0 c] := by
    rw [← hW]
    exact ((Cells.new w #[.slice A 0 c] 25).alloc _).alloc _
  have hx2 : Cells W (w.heap.size + 1) 25 [.slice none 0 0] := by
    rw [← hW]
    have := (Cells.new (w.alloc (.cells #[.slice A 0 c] 25)) #[.slice none 0 0] 25).alloc (.cells #[.int .u64 0, .int .u64 0] 29)
    simp only [World.size_alloc] at this
    exact this
  have hx3 : Cells W (w.heap.size + 1 + 1) 29 [.int .u64 0, .int .u64 0] := by
    rw [← hW]
    have := Cells.new ((w.alloc (.cells #[.slice A 0 c] 25)).alloc (.cells #[.slice none 0 0] 25)) #[.int .u64 0, .int .u64 0] 29
    simp only [World.size_alloc] at this
    exact this
  have hb : Below w.heap.size w W := by
    rw [← hW]
    exact (((Below.refl _ w).alloc (Nat.le_refl _) _).alloc (by simp) _).alloc (by simp only [World.size_alloc]; omega) _
  have p0 := hx1.cell0
  have C1 := Lib.hid (lnPPeek_nil A c W)
  have H := Lib.hid (And.intro hb (And.intro hx1 (And.intro hx2 hx3)))
  clear hb hx1 hx2 hx3
  go_enter Try.func9, Try.ntmps9
  go_upto_region 3 with (go_at_call 11; refine C1.out.mono ?_; rintro e w1 ⟨rfl, hb1⟩)
  have d1 := (H.out.2.1.keep hb1).alloc (.cells #[.int .u64 0, .int .u64 0] 29)
  have d2 := (H.out.2.2.1.keep hb1).alloc (.cells #[.int .u64 0, .int .u64 0] 29)
  have d3 := (H.out.2.2.2.keep hb1).alloc (.cells #[.int .u64 0, .int .u64 0] 29)
  have d4 := Cells.new w1 #[.int .u64 0, .int .u64 0] 29
  have hb2 := (H.out.1.trans (hb1.mono H.out.1.size)).alloc (by have := H.out.1.size; have := hb1.size; omega) (.cells #[.int .u64 0, .int .u64 0] 29)
  have e2 := (d2.set_ 0 (.slice A 0 c)).far (p := ⟨w.heap.size + 1 + 1, 0, none⟩) (by simp) (.int .u64 0)
  have e3 := (d3.far (p := ⟨w.heap.size + 1, 0, none⟩) (by simp) (.slice A 0 c)).set_ 0 (.int .u64 0)
  have e2' := e2.far (p := ⟨w.heap.size + 1 + 1, 1, none⟩) (by simp) (.int .u64 0)
  have e3' := e3.set_ 1 (.int .u64 0)
  obtain ⟨W2, hW2⟩ : ∃ W2, w1.alloc (.cells #[.int .u64 0, .int .u64 0] 29) = W2 := ⟨_, rfl⟩
  have hsz : w1.heap.size ≠ w.heap.size + 1 ∧ w1.heap.size ≠ w.heap.size + 1 + 1 := ⟨by have := H.out.2.2.2.lt; have := hb1.size; omega, by have := H.out.2.2.2.lt; have := hb1.size; omega⟩
  rw [hW2] at d1 d2 d3 d4 hb2 e2 e3 e2' e3' ⊢
  generalize w1.heap.size = h1 at *
  clear hW2 hW p0 C1 hb1
  have a0 := d1.cell0
  have a1 := d4.cell0
  have a2 := d4.cell1
  have a3 := d2.cell0
  have a4 := d2.frozen 0
  have a5 := d3.cell0
  have a6 := d3.frozen 0
  have a7 := d3.cell1
  have a8 := d3.frozen 1
  have r0 := e2'.cell0
  have r1 := e3'.cell0
  have r2 := e3'.cell1
  have HQ := Lib.hid (And.intro e2' (And.intro e3' (And.intro hb2 (And.intro r0 (And.intro r1 r2)))))
  clear d1 d2 d3 d4 e2 e3 e2' e3' hb2 r0 r1 r2
  go_region
  have z0 := HQ.out.2.2.2.1
  have z1 := HQ.out.2.2.2.2.1
  have z2 := HQ.out.2.2.2.2.2
  go_wp2_with fail
  refine bodyPost_ret (v := .tuple #[.agg #[.slice A 0 c], (.agg #[.int .u64 0, .int .u64 0]), .bool false]) (by simp [results, Try.results9, go_sem, z0, z1, z2]) rfl ⟨rfl, ?_⟩
  exact (((HQ.out.2.2.1.setCell (p := ⟨w.heap.size + 1, 0, none⟩) (by simp) _).setCell (p := ⟨w.heap.size + 1 + 1, 0, none⟩) (by show w.heap.size ≤ w.heap.size + 1 + 1; omega) _).setCell (p := ⟨w.heap.size + 1 + 1, 1, none⟩) (by show w.heap.size ≤ w.heap.size + 1 + 1; omega) _).drew
theorem lnPPop_some (A : Option Addr) (c : Nat) (x : Pr) (M : List Pr) (hL : M.length ≤ 900000) (hc : M.length + 1 ≤ c) (hcm : c ≤ maxLen) (w : World) (hA : LiesC w A (flatP (x :: M))) :
    Calls Try.prog 9 #[.agg #[.slice A (M.length + 1) c]] w fun e w' => ∃ v, e = .returned (.tuple #[.agg #[v], .agg #[.int .u64 (x.a : Nat), .int .u64 (x.b : Nat)], .bool true]) ∧ LnIs w' v M.length (flatP M) ∧ v.ownBlock = (Value.slice A 0 0).ownBlock ∧ Below w.heap.size w w' := by
  have hlM : (x :: M).length = M.length + 1 := rfl
  have c1 := fun W h => lnPPeek_some A c (x :: M) (by rw [hlM]; omega) (by rw [hlM]; omega) x rfl W h
  rw [hlM] at c1
  clear hlM
  generalize hn : M.length = n at *
  obtain ⟨W, hW⟩ : ∃ W, ((w.alloc (.cells #[.slice A (n + 1) c] 25)).alloc (.cells #[.slice none 0 0] 25)).alloc (.cells #[.int .u64 0, .int .u64 0] 29) = W := ⟨_, rfl⟩
  have hx1 : Cells W w.heap.size 25 [.slice A (n + 1) c] := by
    rw [← hW]
    exact ((Cells.new w #[.slice A (n + 1) c] 25).alloc _).alloc _
  have hx2 : Cells W (w.heap.size + 1) 25 [.slice none 0 0] := by
    rw [← hW]
    have := (Cells.new (w.alloc (.cells #[.slice A (n + 1) c] 25)) #[.slice none 0 0] 25).alloc (.cells #[.int .u64 0, .int .u64 0] 29)
    simp only [World.size_alloc] at this
    exact this
  have hx3 : Cells W (w.heap.size + 1 + 1) 29 [.int .u64 0, .int .u64 0] := by
    rw [← hW]
    have := Cells.new ((w.alloc (.cells #[.slice A (n + 1) c] 25)).alloc (.cells #[.slice none 0 0] 25)) #[.int .u64 0, .int .u64 0] 29
    simp only [World.size_alloc] at this
    exact this
  have hb : Below w.heap.size w W := by
    rw [← hW]
    exact (((Below.refl _ w).alloc (Nat.le_refl _) _).alloc (by simp) _).alloc (by simp only [World.size_alloc]; omega) _
  have p0 := hx1.cell0
  have C1 := Lib.hid (c1 W (hA.keep hb))
  have H := Lib.hid (And.intro hb (And.intro hx1 (And.intro hx2 hx3)))
  clear hb hx1 hx2 hx3 c1
  go_enter Try.func9, Try.ntmps9
  go_upto_region 4 with (go_at_call 11; refine C1.out.mono ?_; rintro e w1 ⟨rfl, hb1⟩)
  obtain ⟨b, off, rfl, hb, hx⟩ := hA.some_ (by rw [flatP_length]; simp)
  have d1 := (H.out.2.1.keep hb1).alloc (.cells #[.int .u64 (x.a : Nat), .int .u64 (x.b : Nat)] 29)
  have d2 := (H.out.2.2.1.keep hb1).alloc (.cells #[.int .u64 (x.a : Nat), .int .u64 (x.b : Nat)] 29)
  have d3 := (H.out.2.2.2.keep hb1).alloc (.cells #[.int .u64 (x.a : Nat), .int .u64 (x.b : Nat)] 29)
  have d4 := Cells.new w1 #[.int .u64 (x.a : Nat), .int .u64 (x.b : Nat)] 29
  have hb2 := (H.out.1.trans (hb1.mono H.out.1.size)).alloc (by have := H.out.1.size; have := hb1.size; omega) (.cells #[.int .u64 (x.a : Nat), .int .u64 (x.b : Nat)] 29)
  have e2 := (d2.set_ 0 (.slice (if c = 1 then some ⟨b, off, none⟩ else some ⟨b, off + 2, none⟩) n (c - 1))).far (p := ⟨w.heap.size + 1 + 1, 0, none⟩) (by simp) (.int .u64 (x.a : Nat))
  have e3 := (d3.far (p := ⟨w.heap.size + 1, 0, none⟩) (by simp) (.slice (if c = 1 then some ⟨b, off, none⟩ else some ⟨b, off + 2, none⟩) n (c - 1))).set_ 0 (.int .u64 (x.a : Nat))
  have e2' := e2.far (p := ⟨w.heap.size + 1 + 1, 1, none⟩) (by simp) (.int .u64 (x.b : Nat))
  have e3' := e3.set_ 1 (.int .u64 (x.b : Nat))
  obtain ⟨W2, hW2⟩ : ∃ W2, w1.alloc (.cells #[.int .u64 (x.a : Nat), .int .u64 (x.b : Nat)] 29) = W2 := ⟨_, rfl⟩
  have hsz : w1.heap.size ≠ w.heap.size + 1 ∧ w1.heap.size ≠ w.heap.size + 1 + 1 := ⟨by have := H.out.2.2.2.lt; have := hb1.size; omega, by have := H.out.2.2.2.lt; have := hb1.size; omega⟩
  rw [hW2] at d1 d2 d3 d4 hb2 e2 e3 e2' e3' ⊢
  generalize w1.heap.size = h1 at *
  clear hW2 hW p0 C1 hb1
  have a0 := d1.cell0
  have a1 := d4.cell0
  have a2 := d4.cell1
  have a3 := d2.cell0
  have a4 := d2.frozen 0
  have a5 := d3.cell0
  have a6 := d3.frozen 0
  have a7 := d3.cell1
  have a8 := d3.frozen 1
  have r0 := e2'.cell0
  have r1 := e3'.cell0
  have r2 := e3'.cell1
  have HQ := Lib.hid (And.intro e2' (And.intro e3' (And.intro hb2 (And.intro r0 (And.intro r1 r2)))))
  clear d1 d2 d3 d4 e2 e3 e2' e3' hb2 r0 r1 r2
  go_region
  have hA' : ∃ A', (if c = 1 then some ⟨b, off, none⟩ else some ⟨b, off + 2, none⟩) = A' ∧ ((c = 1 → A' = some ⟨b, off, none⟩) ∧ (¬ c = 1 → A' = some (⟨b, off + 2, none⟩ : Addr))) := ⟨_, rfl, fun h => by rw [if_pos h], fun h => by rw [if_neg h]⟩
  obtain ⟨A', hA1, hA2⟩ := hA'
  rw [hA1] at HQ ⊢
  clear hA1
  obtain ⟨off', hA1⟩ : ∃ o, A' = some ⟨b, o, none⟩ := by
    by_cases h1 : c = 1
    · exact ⟨_, hA2.1 h1⟩
    · exact ⟨_, hA2.2 h1⟩
  subst hA1
  have z0 := HQ.out.2.2.2.1
  have z1 := HQ.out.2.2.2.2.1
  have z2 := HQ.out.2.2.2.2.2
  go_wp2_with fail
  refine bodyPost_ret (v := .tuple #[.agg #[.slice (some ⟨b, off', none⟩) n (c - 1)], .agg #[.int .u64 (x.a : Nat), .int .u64 (x.b : Nat)], .bool true]) (by simp [results, Try.results9, go_sem, z0, z1, z2]) rfl ⟨_, rfl, ?_, ?_, ?_⟩
  · have ho := only_below HQ.out.2.2.1 (fun i => w.heap.size ≤ i)
    have hl := hA.only ho (fun a e h => by cases e; exact absurd h (by show ¬ w.heap.size ≤ b; omega))
    have ho2 := ((((Only.refl (fun i => w.heap.size ≤ i) W2).setCell (p := ⟨w.heap.size + 1, 0, none⟩) (by show _ ≤ _; simp) (.slice (some ⟨b, off', none⟩) n (c - 1))).setCell (p := ⟨w.heap.size + 1 + 1, 0, none⟩) (by show w.heap.size ≤ w.heap.size + 1 + 1; omega) (.int .u64 (x.a : Nat))).setCell (p := ⟨w.heap.size + 1 + 1, 1, none⟩) (by show w.heap.size ≤ w.heap.size + 1 + 1; omega) (.int .u64 (x.b : Nat))).drew
    have hb3 : b < W2.heap.size := Nat.lt_of_lt_of_le hb HQ.out.2.2.1.size
    have hl2 := (hl.only ho2 (fun a e h => by cases e; exact absurd h (by show ¬ w.heap.size ≤ b; omega)))
    refine ⟨_, _, rfl, by omega, by unfold maxLen at *; omega, fun e => ?_, ?_, fun a e => ?_⟩
    · cases e
    · by_cases h1 : c = 1
      · have : M = [] := List.eq_nil_of_length_eq_zero (by omega)
        rw [this]; exact .inl rfl
      · have e := hA2.2 h1
        cases e
        exact hl2.drop (k := 2)
    · have hs := ho2.size
      cases e
      exact Nat.lt_of_lt_of_le hb3 hs
  · rfl
  · exact (((HQ.out.2.2.1.setCell (p := ⟨w.heap.size + 1, 0, none⟩) (by simp) _).setCell (p := ⟨w.heap.size + 1 + 1, 0, none⟩) (by show w.heap.size ≤ w.heap.size + 1 + 1; omega) _).setCell (p := ⟨w.heap.size + 1 + 1, 1, none⟩) (by show w.heap.size ≤ w.heap.size + 1 + 1; omega) _).drew

theorem eqP_ne {L M : List Pr} {k : Nat} (h : decide (nthP L k = nthP M k) = false) : decide (L = M) = false := decide_eq_false fun e => by rw [e] at h; simp at h
theorem eqP_eq {L M : List Pr} (hl : L.length = M.length) (h : ∀ i, i < L.length → nthP L i = nthP M i) : decide (L = M) = true := decide_eq_true (nthP_ext hl h)
theorem eqP_len {L M : List Pr} (h : L.length ≠ M.length) : decide (L = M) = false := decide_eq_false fun e => h (by rw [e])


theorem lnPEqual_any (A B : Option Addr) (c d : Nat) (L M : List Pr) (hL : L.length ≤ 1000000) (hM : M.length ≤ 1000000) (w : World) (ha : LiesC w A (flatP L)) (hb : LiesC w B (flatP M)) :
    Calls Try.prog 24 #[.slice A L.length c, .slice B M.length d] w fun e w' => e = .returned (.bool (decide (L = M))) ∧ Drew w w' := by
  have HA := Lib.hid ha; have HB := Lib.hid hb
  clear ha hb
  generalize hn : L.length = n at *
  generalize hm : M.length = m at *
  by_cases hnm : n = m
  · subst hnm
    go_enter Try.func24, Try.ntmps24
    go_wp2_with fail
    go_loopw [13] (fun i wr => ∃ k : Nat, i = .int .i64 k ∧ k ≤ n ∧ Drew w wr ∧ ∀ i, i < k → nthP L i = nthP M i) (fun i _ => n - (intOf i).toNat)
    case atStart => exact ⟨0, rfl, Nat.zero_le _, Drew.refl _, fun i hi => by omega⟩
    case round =>
      obtain ⟨k, rfl, hk, hd, he⟩ := hrel
      by_cases hlt : k < n
      · obtain ⟨b1, off1, rfl, _, x1⟩ := (HA.out.keep (hd.below _)).atP (by omega)
        obtain ⟨b2, off2, rfl, _, x2⟩ := (HB.out.keep (hd.below _)).atP (by omega)
        obtain ⟨p0, p1⟩ := x1 k (by omega)
        obtain ⟨q0, q1⟩ := x2 k (by omega)
        have HQ : ∀ W, (binOp .neq 29 (.agg #[.int .u64 ((nthP L k).a : Nat), .int .u64 ((nthP L k).b : Nat)]) (.agg #[.int .u64 ((nthP M k).a : Nat), .int .u64 ((nthP M k).b : Nat)])).run Try.prog W = .ok (.bool (!decide (nthP L k = nthP M k))) W := fun W => neq_pr W _ _
        have HD := Lib.hid (hd.more 1)
        have HE := Lib.hid he
        clear x1 x2 hd he
        cases hs : decide (nthP L k = nthP M k)
        all_goals
          rw [hs] at HQ
          have HS := Lib.hid hs; clear hs
          generalize hx2 : (nthP L k).a = y2 at *
          generalize hx3 : (nthP L k).b = y3 at *
          generalize hx5 : (nthP M k).a = y5 at *
          generalize hx6 : (nthP M k).b = y6 at *
          clear hx2 hx3 hx5 hx6
        · go_upto_region 6 with fail
          go_region
          go_wp2_with fail
          go_ret
          exact ⟨by rw [eqP_ne HS.out]; rfl, HD.out⟩
        · go_upto_region 6 with fail
          go_region
          go_wp2_with fail
          go_roundw
          case rel => exact ⟨k + 1, by go_num, by omega, HD.out, fun i hi => by
            rcases Nat.lt_or_ge i k with h | h
            · exact HE.out i h
            · obtain rfl : i = k := by omega
              exact of_decide_eq_true HS.out⟩
          case measure => simp [intOf]; omega
      · obtain rfl : k = n := by omega
        have HD := Lib.hid hd; clear hd
        have HE := Lib.hid he; clear he
        go_wp2_with fail
        go_ret
        exact ⟨by rw [eqP_eq (by omega) (fun i hi => HE.out i (by omega))]; rfl, HD.out⟩
  · go_enter Try.func24, Try.ntmps24
    go_wp2_with fail
    all_goals first
      | (exfalso; omega)
      | (go_ret; exact ⟨by rw [eqP_len (by omega)]; rfl, Drew.refl _⟩)
theorem refSame_any (A B : Option Addr) (c d : Nat) (L M : List Pr) (hL : L.length ≤ 1000000) (hM : M.length ≤ 1000000) (w : World) (ha : LiesC w A (flatP L)) (hb : LiesC w B (flatP M)) :
    Calls Try.prog 13 #[.slice A L.length c, .slice B M.length d] w fun e w' => e = .returned (.bool (decide (L = M))) ∧ Drew w w' := by
  have HA := Lib.hid ha; have HB := Lib.hid hb
  clear ha hb
  generalize hn : L.length = n at *
  generalize hm : M.length = m at *
  by_cases hnm : n = m
  · subst hnm
    go_enter Try.func13, Try.ntmps13
    go_wp2_with fail
    go_loopw [5] (fun i wr => ∃ k : Nat, i = .int .i64 k ∧ k ≤ n ∧ Drew w wr ∧ ∀ i, i < k → nthP L i = nthP M i) (fun i _ => n - (intOf i).toNat)
    case atStart => exact ⟨0, rfl, Nat.zero_le _, Drew.refl _, fun i hi => by omega⟩
    case round =>
      obtain ⟨k, rfl, hk, hd, he⟩ := hrel
      by_cases hlt : k < n
      · obtain ⟨b1, off1, rfl, _, x1⟩ := (HA.out.keep (hd.below _)).atP (by omega)
        obtain ⟨b2, off2, rfl, _, x2⟩ := (HB.out.keep (hd.below _)).atP (by omega)
        obtain ⟨p0, p1⟩ := x1 k (by omega)
        obtain ⟨q0, q1⟩ := x2 k (by omega)
        have HQ : ∀ W, (binOp .neq 29 (.agg #[.int .u64 ((nthP L k).a : Nat), .int .u64 ((nthP L k).b : Nat)]) (.agg #[.int .u64 ((nthP M k).a : Nat), .int .u64 ((nthP M k).b : Nat)])).run Try.prog W = .ok (.bool (!decide (nthP L k = nthP M k))) W := fun W => neq_pr W _ _
        have HD := Lib.hid (hd.more 1)
        have HE := Lib.hid he
        clear x1 x2 hd he
        cases hs : decide (nthP L k = nthP M k)
        all_goals
          rw [hs] at HQ
          have HS := Lib.hid hs; clear hs
          generalize hx2 : (nthP L k).a = y2 at *
          generalize hx3 : (nthP L k).b = y3 at *
          generalize hx5 : (nthP M k).a = y5 at *
          generalize hx6 : (nthP M k).b = y6 at *
          clear hx2 hx3 hx5 hx6
        · go_upto_region 6 with fail
          go_region
          go_wp2_with fail
          go_ret
          exact ⟨by rw [eqP_ne HS.out]; rfl, HD.out⟩
        · go_upto_region 6 with fail
          go_region
          go_wp2_with fail
          go_roundw
          case rel => exact ⟨k + 1, by go_num, by omega, HD.out, fun i hi => by
            rcases Nat.lt_or_ge i k with h | h
            · exact HE.out i h
            · obtain rfl : i = k := by omega
              exact of_decide_eq_true HS.out⟩
          case measure => simp [intOf]; omega
      · obtain rfl : k = n := by omega
        have HD := Lib.hid hd; clear hd
        have HE := Lib.hid he; clear he
        go_wp2_with fail
        go_ret
        exact ⟨by rw [eqP_eq (by omega) (fun i hi => HE.out i (by omega))]; rfl, HD.out⟩
  · go_enter Try.func13, Try.ntmps13
    go_wp2_with fail
    all_goals first
      | (exfalso; omega)
      | (go_ret; exact ⟨by rw [eqP_len (by omega)]; rfl, Drew.refl _⟩)
end Go.Proofs.Ytfklbbjmjkojjaa
