/- Package line, at lines of api.Pair. -/
import Derived.Test.YtfklbbjmjkojjaaLine
import Derived.Lib.SliceRun
import Derived.Deep.RegionLaw
import Derived.Deep.RegionLawGrows
import Derived.BigQuiet
import Derived.Deep.DeepCutAuto
import Derived.Deep.QuietTactic
import Derived.Defers
import Derived.Recover
namespace Go.Proofs.Ytfklbbjmjkojjaa
open Go.ChangeShapes Go.WideShapes Go.ChangeAt Go.RowKit

theorem lnPClone_nil (n c : Nat) (w : World) : Calls Try.prog 22 #[.slice none n c] w fun e w' => e = .returned (.slice none 0 0) ∧ w = w' := by
  have q : ∀ (w : World) (a : Option Addr) (n c n' c' : Nat), (binOp .eql 22 (.slice a n c) (.slice none n' c')).run Try.prog w = .ok (.bool a.isNone) w := fun w a n c n' c' => Lib.run_eql_slice_nil w _ _ a n c n' c' Try.underlying22
  go_enter Try.func22, Try.ntmps22
  go_wp2_with fail
  go_ret
  exact ⟨rfl, rfl⟩

theorem lnPClone_some (a : Addr) (c : Nat) (L : List Pr) (hL : L.length ≤ 1000000) (w : World) (hA : LiesC w (some a) (flatP L)) :
    Calls Try.prog 22 #[.slice (some a) L.length c] w fun e w' => ∃ v, e = .returned v ∧ w'.ownsRow w.heap.size 29 2 v L.length (flatP L) ∧ Below w.heap.size w w' := by
  have q : ∀ (w : World) (a : Option Addr) (n c n' c' : Nat), (binOp .eql 22 (.slice a n c) (.slice none n' c')).run Try.prog w = .ok (.bool a.isNone) w := fun w a n c n' c' => Lib.run_eql_slice_nil w _ _ a n c n' c' Try.underlying22
  obtain ⟨i0, hi0, hz0, hz1, hz3⟩ := infoP
  have HX := Lib.hid (And.intro (World.ownsRow_lit (base := w.heap.size) (e := 29) (size := 2) w #[] 0 (Nat.le_refl _) (by decide) rfl) (LiesC.news (hA.alloc (.cells #[] 29))))
  generalize hn : L.length = n at *
  have HN := Lib.hid hn; clear hn hA
  go_enter Try.func22, Try.ntmps22
  go_wp2_with (at_builtin; refine wpList_append_own _ rfl _ _ 22 rfl w.heap.size 29 i0 (.agg #[.int .u64 0, .int .u64 0]) 2 16 Try.underlying22 hi0 hz0 hz1 hz3 rfl (by decide) (.slice (some ⟨w.heap.size, 0, none⟩) 0 0) 0 [] rfl HX.out.1 a n c (flatP L) rfl (by rw [flatP_length, HN.out]) HX.out.2 (flatP_one L) (by unfold maxLen; omega) (by omega) (by simp) ?_; intro v' w1 hown hgrow hnil)
  go_ret
  refine ⟨v', rfl, by simpa using hown, ?_⟩
  exact below_grown ((Below.refl _ w).alloc (Nat.le_refl _) _) hgrow (by intro k hk; simp [Value.ownBlock] at hk; omega) (by simp)

/-- A copy of any list, in memory of the call's own. -/
theorem lnPClone_any (A : Option Addr) (c : Nat) (L : List Pr) (hL : L.length ≤ 1000000) (w : World) (hA : LiesC w A (flatP L)) :
    Calls Try.prog 22 #[.slice A L.length c] w fun e w' => ∃ v, e = .returned v ∧ LnIs w' v L.length (flatP L) ∧ Far w.heap.size v ∧ Below w.heap.size w w' := by
  cases A with
  | none =>
    have h0 : L = [] := by
      rcases hA with h | ⟨b, off, e, _⟩
      · have h0 : (flatP L).length = 0 := by rw [h]; rfl
        rw [flatP_length] at h0
        exact List.eq_nil_of_length_eq_zero (by omega)
      · cases e
    subst h0
    refine (lnPClone_nil _ _ w).mono ?_
    rintro e w' ⟨rfl, rfl⟩
    exact ⟨_, rfl, lnIs_of_own (World.ownsRow_nil w w.heap.size 29 2), (fun k hk => by cases hk), Below.refl _ _⟩
  | some a =>
    refine (lnPClone_some a c L hL w hA).mono ?_
    rintro e w' ⟨v, rfl, h1, h2⟩
    exact ⟨v, rfl, lnIs_of_own h1, far_of_own h1, h2⟩

theorem lnPOf_any (A : Option Addr) (c : Nat) (L : List Pr) (hL : L.length ≤ 1000000) (w : World) (hA : LiesC w A (flatP L)) :
    Calls Try.prog 7 #[.slice A L.length c] w fun e w' => ∃ v, e = .returned (.agg #[v]) ∧ LnIs w' v L.length (flatP L) ∧ Far w.heap.size v ∧ Below w.heap.size w w' := by
  have hB : Below w.heap.size w (w.alloc (.cells #[.slice none 0 0] 25)) := (Below.refl _ w).alloc (Nat.le_refl _) _
  have hx := Cells.new w #[.slice none 0 0] 25
  have c1 := lnPClone_any A c L hL _ (hA.keep hB)
  rw [World.size_alloc] at c1
  have C1 := Lib.hid c1
  have H := Lib.hid (And.intro hB hx)
  clear c1 hB hx hA
  generalize L.length = n at *
  go_enter Try.func7, Try.ntmps7
  go_wp2_with (go_at_call 22; refine C1.out.mono ?_; rintro e w1 ⟨v, rfl, hv, hf, hb⟩
               obtain ⟨A1, c1, rfl, d1, d2, d3, d4⟩ := hv
               have k0 := (H.out.2.keep (hb.mono (by simp))).cell0
               have k1 := (H.out.2.keep (hb.mono (by simp))).frozen 0
               have hb' := Lib.hid (H.out.1.trans (hb.mono (by omega)))
               have HV := Lib.hid (And.intro (H.out.2.keep (hb.mono (by simp))) (And.intro hf (And.intro d1 (And.intro d2 (And.intro d3 d4)))))
               clear hf hb d1 d2 d3 d4)
  have B1 := hb'.out.setCell (p := ⟨w.heap.size, 0, none⟩) (Nat.le_refl _) (.slice A1 n c1)
  have hc := (HV.out.1.set_ 0 (.slice A1 n c1)).cell0
  refine bodyPost_ret (v := .agg #[.slice A1 n c1]) (by simp [results, Try.results7, go_sem, hc]) rfl ⟨_, rfl, ?_, HV.out.2.1.mono (by omega), B1⟩
  exact LnIs.only ⟨A1, c1, rfl, HV.out.2.2.1, HV.out.2.2.2.1, HV.out.2.2.2.2.1, HV.out.2.2.2.2.2⟩ ((Only.refl (fun i => i = w.heap.size) w1).setCell (p := ⟨w.heap.size, 0, none⟩) rfl _) (fun k hk e => by have := HV.out.2.1 k hk; omega)

theorem lnPLen_any (A : Option Addr) (n c : Nat) (w : World) : Calls Try.prog 12 #[.agg #[.slice A n c]] w fun e w' => e = .returned (.int .i64 n) ∧ Below w.heap.size w w' := by
  have hx := (Cells.new w #[.slice A n c] 25).cell0
  have hB : Below w.heap.size w (w.alloc (.cells #[.slice A n c] 25)) := (Below.refl _ w).alloc (Nat.le_refl _) _
  go_enter Try.func12, Try.ntmps12
  go_wp2_with fail
  go_ret
  exact ⟨rfl, hB⟩

theorem lnPAll_any (A : Option Addr) (c : Nat) (L : List Pr) (hL : L.length ≤ 1000000) (w : World) (hA : LiesC w A (flatP L)) :
    Calls Try.prog 14 #[.agg #[.slice A L.length c]] w fun e w' => ∃ v, e = .returned v ∧ LnIs w' v L.length (flatP L) ∧ Far w.heap.size v ∧ Below w.heap.size w w' := by
  have hB : Below w.heap.size w (w.alloc (.cells #[.slice A L.length c] 25)) := (Below.refl _ w).alloc (Nat.le_refl _) _
  have hx := (Cells.new w #[.slice A L.length c] 25).cell0
  have c1 := lnPClone_any A c L hL _ (hA.keep hB)
  rw [World.size_alloc] at c1
  have C1 := Lib.hid c1
  have H := Lib.hid hB
  clear c1 hB hA
  generalize L.length = n at *
  go_enter Try.func14, Try.ntmps14
  go_wp2_with (go_at_call 22; refine C1.out.mono ?_; rintro e w1 ⟨v, rfl, hv, hf, hb⟩)
  go_ret
  exact ⟨_, rfl, hv, hf.mono (by omega), H.out.trans (hb.mono (by omega))⟩

theorem two_newsP (w : World) (u : Value) (t1 : TypeId) (cs : Array Value) (t2 : TypeId) :
    Below w.heap.size w ((w.alloc (.cells #[u] t1)).alloc (.cells cs t2)) ∧ Cells ((w.alloc (.cells #[u] t1)).alloc (.cells cs t2)) w.heap.size t1 [u] ∧ Cells ((w.alloc (.cells #[u] t1)).alloc (.cells cs t2)) (w.heap.size + 1) t2 cs.toList := by
  refine ⟨((Below.refl _ w).alloc (Nat.le_refl _) _).alloc (by simp) _, (Cells.new w #[u] t1).alloc _, ?_⟩
  have := Cells.new (w.alloc (.cells #[u] t1)) cs t2
  rw [World.size_alloc] at this
  exact this

theorem lnPPeek_nil (A : Option Addr) (c : Nat) (w : World) : Calls Try.prog 11 #[.agg #[.slice A 0 c]] w fun e w' => e = .returned (.tuple #[(.agg #[.int .u64 0, .int .u64 0]), .bool false]) ∧ Below w.heap.size w w' := by
  obtain ⟨hB, hx, hy⟩ := two_newsP w (.slice A 0 c) 25 #[.int .u64 0, .int .u64 0] 29
  have HB := Lib.hid (And.intro hB (And.intro hx hy)); clear hB hx hy
  go_enter Try.func11, Try.ntmps11
  go_wp2_with fail
  have hy := (HB.out.2.2.alloc (.cells #[.int .u64 0, .int .u64 0] 29))
  have e0 := hy.cell0
  have e1 := hy.cell1
  refine bodyPost_ret (v := .tuple #[(.agg #[.int .u64 0, .int .u64 0]), .bool false]) (by simp [results, Try.results11, go_sem, e0, e1]) rfl ⟨rfl, HB.out.1.alloc HB.out.1.size _⟩

theorem lnPPeek_some (A : Option Addr) (c : Nat) (L : List Pr) (hL : L.length ≤ 1000000) (h0 : 0 < L.length) (x : Pr) (hx0 : x = nthP L 0) (w : World) (hA : LiesC w A (flatP L)) : Calls Try.prog 11 #[.agg #[.slice A L.length c]] w fun e w' => e = .returned (.tuple #[.agg #[.int .u64 (x.a : Nat), .int .u64 (x.b : Nat)], .bool true]) ∧ Below w.heap.size w w' := by
  obtain ⟨hB, hx, hy⟩ := two_newsP w (.slice A L.length c) 25 #[.int .u64 0, .int .u64 0] 29
  obtain ⟨hB1, _, hy1⟩ := two_newsP w (.slice A L.length c) 25 #[.int .u64 (x.a : Nat), .int .u64 (x.b : Nat)] 29
  obtain ⟨b, off, rfl, hb, hc⟩ := (hA.keep hB).atP h0
  have hc0 := hc 0 h0
  rw [← hx0] at hc0
  rw [Nat.zero_mul, Nat.add_zero] at hc0
  obtain ⟨hc0, hc1⟩ := hc0
  have HB := Lib.hid (And.intro hB1 hy1)
  clear hc hA hB hx hx0 hy hB1 hy1
  generalize L.length = n at *
  go_enter Try.func11, Try.ntmps11
  go_wp2_with fail
  have e0 := HB.out.2.cell0
  have e1 := HB.out.2.cell1
  refine bodyPost_ret (v := .tuple #[.agg #[.int .u64 (x.a : Nat), .int .u64 (x.b : Nat)], .bool true]) (by simp [results, Try.results11, go_sem, e0, e1]) rfl ⟨rfl, HB.out.1⟩

/-- What an append without room leaves: all that was there, and a new row. -/
theorem lnP_grown {w W w' : World} {g cap n B : Nat} {cs xs : List Value} {t3 : TypeId} (hB : Below w.heap.size w W) (hown : w'.ownsRow W.heap.size 29 2 (.slice (some ⟨g, 0, none⟩) n cap) n cs) (hgrow : W.grownBy w' none) (hx : Cells W B t3 xs) :
    Below w.heap.size w w' ∧ Cells w' B t3 xs ∧ W.heap.size ≤ g ∧ B < W.heap.size :=
  ⟨below_grown0 hB hgrow hB.size, (hgrow.block B hx.lt (by simp)).trans hx, (hown.lt g rfl).1, hx.lt⟩
theorem lnP_done {w W w' : World} {g cap n B : Nat} {L : List Pr} {xs : List Value} {t3 : TypeId} (h0 : w.heap.size ≤ B) (hB : Below w.heap.size w W) (hown : w'.ownsRow W.heap.size 29 2 (.slice (some ⟨g, 0, none⟩) n cap) n (flatP L)) (hgrow : W.grownBy w' none) (hx : Cells W B t3 xs) :
    LnIs (w'.setCell ⟨B, 0, none⟩ (.slice (some ⟨g, 0, none⟩) n cap)) (.slice (some ⟨g, 0, none⟩) n cap) n (flatP L) ∧ Far w.heap.size (.slice (some ⟨g, 0, none⟩) n cap) ∧ Below w.heap.size w (w'.setCell ⟨B, 0, none⟩ (.slice (some ⟨g, 0, none⟩) n cap)) := by
  obtain ⟨h1, h2, h3, h4⟩ := lnP_grown hB hown hgrow hx
  refine ⟨(lnIs_of_own hown).only ((Only.refl (fun i => i = B) w').setCell (p := ⟨B, 0, none⟩) rfl _) (fun k hk e => by have := (hown.lt k hk).1; omega), (far_of_own hown).mono hB.size, h1.setCell (by exact h0) _⟩

theorem lnPPush_any (A : Option Addr) (c : Nat) (L : List Pr) (hL : L.length ≤ 1000000) (hc : L.length ≤ c) (hcm : c ≤ maxLen) (hn : A = none → c = 0) (x : Pr) (w : World) (hA : LiesC w A (flatP L)) :
    Calls Try.prog 8 #[.agg #[.slice A L.length c], .agg #[.int .u64 (x.a : Nat), .int .u64 (x.b : Nat)]] w fun e w' => ∃ v, e = .returned (.agg #[v]) ∧ LnIs w' v (L.length + 1) (flatP (L ++ [x])) ∧ Far w.heap.size v ∧ Below w.heap.size w w' := by
  obtain ⟨i0, hi0, hz0, hz1, hz3⟩ := infoP
  have hA0 : A = none → L.length = 0 := fun e => by have := hn e; omega
  obtain ⟨W, hW⟩ : ∃ W, ((((w.alloc (.cells #[.slice A L.length c] 25)).alloc (.cells #[.int .u64 (x.a : Nat), .int .u64 (x.b : Nat)] 29)).alloc (.cells #[.slice none 0 0] 25)).alloc (.cells #[.int .u64 (x.a : Nat), .int .u64 (x.b : Nat)] 29)).drew = W := ⟨_, rfl⟩
  have hx3 : Cells W (w.heap.size + 2) 25 [.slice none 0 0] := by
    rw [← hW]
    have := (Cells.new ((w.alloc (.cells #[.slice A L.length c] 25)).alloc (.cells #[.int .u64 (x.a : Nat), .int .u64 (x.b : Nat)] 29)) #[.slice none 0 0] 25).alloc (.cells #[.int .u64 (x.a : Nat), .int .u64 (x.b : Nat)] 29)
    simp only [World.size_alloc] at this
    exact this.drew
  have hx4 : Cells W (w.heap.size + 1 + 1 + 1) 29 (flatP [x]) := by
    rw [← hW]
    have := Cells.new (((w.alloc (.cells #[.slice A L.length c] 25)).alloc (.cells #[.int .u64 (x.a : Nat), .int .u64 (x.b : Nat)] 29)).alloc (.cells #[.slice none 0 0] 25)) #[.int .u64 (x.a : Nat), .int .u64 (x.b : Nat)] 29
    simp only [World.size_alloc] at this
    exact this.drew
  have hx1 : Cells W w.heap.size 25 [.slice A L.length c] := by
    rw [← hW]
    exact ((((Cells.new w #[.slice A L.length c] 25).alloc (.cells #[.int .u64 (x.a : Nat), .int .u64 (x.b : Nat)] 29)).alloc (.cells #[.slice none 0 0] 25)).alloc (.cells #[.int .u64 (x.a : Nat), .int .u64 (x.b : Nat)] 29)).drew
  have hx2 : Cells W (w.heap.size + 1) 29 (flatP [x]) := by
    rw [← hW]
    have := ((Cells.new (w.alloc (.cells #[.slice A L.length c] 25)) #[.int .u64 (x.a : Nat), .int .u64 (x.b : Nat)] 29).alloc (.cells #[.slice none 0 0] 25)).alloc (.cells #[.int .u64 (x.a : Nat), .int .u64 (x.b : Nat)] 29)
    simp only [World.size_alloc] at this
    exact this.drew
  have p0 := hx1.cell0
  have p1 := hx2.cell0
  have p2 := hx2.cell1
  clear hx1 hx2
  have hb : Below w.heap.size w W := by
    rw [← hW]
    exact ((((Below.refl _ w).alloc (Nat.le_refl _) _).alloc (by simp) _).alloc (by simp only [World.size_alloc]; omega) _).alloc (by simp only [World.size_alloc]; omega) _ |>.drew
  have hl := hA.keep hb
  have holds : ∀ b, A = some b → ∀ j u, (flatP L)[j]? = some u → W.cell? (b.add j) = some u := fun b e => by subst e; exact hl.news
  have hfl : flatP L ++ flatP [x] = flatP (L ++ [x]) := (flatP_append L [x]).symm
  have H := Lib.hid (And.intro hx3 (And.intro hx4 (And.intro hb (And.intro holds (And.intro hfl hA0)))))
  clear hx3 hx4 hb holds hl hA hfl hA0
  have HF := Lib.hid (flatP_length L)
  generalize hm : L.length = n at *
  have HW := Lib.hid hW
  cases A with
  | none =>
    obtain rfl : c = 0 := hn rfl
    obtain rfl : n = 0 := by omega
    clear hn
    go_enter Try.func8, Try.ntmps8
    go_upto_region 2 with fail
    go_region_law (refine step_append_grows rfl _ _ 22 rfl 29 i0 (.agg #[.int .u64 0, .int .u64 0]) 2 16 Try.underlying22 hi0 hz0 hz1 hz3 rfl (by decide) none 0 0 (flatP L) rfl (fun _ => ⟨rfl, rfl⟩) HF.out H.out.2.2.2.1 ⟨w.heap.size + 1 + 1 + 1, 0, none⟩ 1 1 (flatP [x]) rfl rfl H.out.2.1.news (flatP_one [x]) (by omega) (by unfold maxLen; omega) (by omega) ?_; intro v' w' hown hgrow; obtain ⟨g, cap, rfl, hg1, hg2⟩ := hown.form (by omega); have q := lnP_grown H.out.2.2.1 hown hgrow H.out.1; have q0 := q.2.1.cell0; have q1 := q.2.1.frozen 0)
    all_goals
      rw [H.out.2.2.2.2.1] at hown
      have D := lnP_done (by omega) H.out.2.2.1 hown hgrow H.out.1
      have z := (q.2.1.set_ 0 (.slice (some ⟨g, 0, none⟩) 1 cap)).cell0
      go_wp2_with fail
      refine bodyPost_ret (v := .agg #[.slice (some ⟨g, 0, none⟩) 1 cap]) (by simp [results, Try.results8, go_sem, z]) rfl ⟨_, rfl, D.1, D.2.1, D.2.2⟩
  | some a =>
    clear hn
    go_enter Try.func8, Try.ntmps8
    go_upto_region 2 with fail
    go_region_law (refine step_append_grows rfl _ _ 22 rfl 29 i0 (.agg #[.int .u64 0, .int .u64 0]) 2 16 Try.underlying22 hi0 hz0 hz1 hz3 rfl (by decide) (some a) n n (flatP L) rfl (fun e => nomatch e) HF.out H.out.2.2.2.1 ⟨w.heap.size + 1 + 1 + 1, 0, none⟩ 1 1 (flatP [x]) rfl rfl H.out.2.1.news (flatP_one [x]) (by omega) (by unfold maxLen; omega) (by omega) ?_; intro v' w' hown hgrow; obtain ⟨g, cap, rfl, hg1, hg2⟩ := hown.form (by omega); have q := lnP_grown H.out.2.2.1 hown hgrow H.out.1; have q0 := q.2.1.cell0; have q1 := q.2.1.frozen 0)
    all_goals
      rw [H.out.2.2.2.2.1] at hown
      have D := lnP_done (by omega) H.out.2.2.1 hown hgrow H.out.1
      have z := (q.2.1.set_ 0 (.slice (some ⟨g, 0, none⟩) (n + 1) cap)).cell0
      go_wp2_with fail
      refine bodyPost_ret (v := .agg #[.slice (some ⟨g, 0, none⟩) (n + 1) cap]) (by simp [results, Try.results8, go_sem, z]) rfl ⟨_, rfl, D.1, D.2.1, D.2.2⟩
end Go.Proofs.Ytfklbbjmjkojjaa
