/- Package line, at lines of int. -/
import Derived.Test.YtfklbbjmjkojjaaLine
import Derived.Lib.SliceRun
import Derived.Deep.RegionLaw
import Derived.Deep.RegionLawGrows
import Derived.BigQuiet
import Derived.Deep.DeepCutAuto
import Derived.Deep.QuietTactic
import Derived.Defers
import Derived.Recover
namespace Go.Proofs.Ytfklbbjmjkojjaa
open Go.ChangeShapes Go.WideShapes Go.ChangeAt Go.RowKit

theorem lnIClone_nil (n c : Nat) (w : World) : Calls Try.prog 25 #[.slice none n c] w fun e w' => e = .returned (.slice none 0 0) ∧ w = w' := by
  have q : ∀ (w : World) (a : Option Addr) (n c n' c' : Nat), (binOp .eql 42 (.slice a n c) (.slice none n' c')).run Try.prog w = .ok (.bool a.isNone) w := fun w a n c n' c' => Lib.run_eql_slice_nil w _ _ a n c n' c' Try.underlying42
  go_enter Try.func25, Try.ntmps25
  go_wp2_with fail
  go_ret
  exact ⟨rfl, rfl⟩

theorem lnIClone_some (a : Addr) (c : Nat) (L : List Int) (hL : L.length ≤ 1000000) (w : World) (hA : LiesC w (some a) (flatI L)) :
    Calls Try.prog 25 #[.slice (some a) L.length c] w fun e w' => ∃ v, e = .returned v ∧ w'.ownsRow w.heap.size 3 1 v L.length (flatI L) ∧ Below w.heap.size w w' := by
  have q : ∀ (w : World) (a : Option Addr) (n c n' c' : Nat), (binOp .eql 42 (.slice a n c) (.slice none n' c')).run Try.prog w = .ok (.bool a.isNone) w := fun w a n c n' c' => Lib.run_eql_slice_nil w _ _ a n c n' c' Try.underlying42
  obtain ⟨i0, hi0, hz0, hz1, hz3⟩ := infoI
  have HX := Lib.hid (And.intro (World.ownsRow_lit (base := w.heap.size) (e := 3) (size := 1) w #[] 0 (Nat.le_refl _) (by decide) rfl) (LiesC.news (hA.alloc (.cells #[] 3))))
  generalize hn : L.length = n at *
  have HN := Lib.hid hn; clear hn hA
  go_enter Try.func25, Try.ntmps25
  go_wp2_with (at_builtin; refine wpList_append_own _ rfl _ _ 42 rfl w.heap.size 3 i0 (.int .i64 0) 1 8 Try.underlying42 hi0 hz0 hz1 hz3 rfl (by decide) (.slice (some ⟨w.heap.size, 0, none⟩) 0 0) 0 [] rfl HX.out.1 a n c (flatI L) rfl (by rw [flatI_length, HN.out]) HX.out.2 (flatI_one L) (by unfold maxLen; omega) (by omega) (by simp) ?_; intro v' w1 hown hgrow hnil)
  go_ret
  refine ⟨v', rfl, by simpa using hown, ?_⟩
  exact below_grown ((Below.refl _ w).alloc (Nat.le_refl _) _) hgrow (by intro k hk; simp [Value.ownBlock] at hk; omega) (by simp)

/-- A copy of any list, in memory of the call's own. -/
theorem lnIClone_any (A : Option Addr) (c : Nat) (L : List Int) (hL : L.length ≤ 1000000) (w : World) (hA : LiesC w A (flatI L)) :
    Calls Try.prog 25 #[.slice A L.length c] w fun e w' => ∃ v, e = .returned v ∧ LnIs w' v L.length (flatI L) ∧ Far w.heap.size v ∧ Below w.heap.size w w' := by
  cases A with
  | none =>
    have h0 : L = [] := by
      rcases hA with h | ⟨b, off, e, _⟩
      · have h0 : (flatI L).length = 0 := by rw [h]; rfl
        rw [flatI_length] at h0
        exact List.eq_nil_of_length_eq_zero (by omega)
      · cases e
    subst h0
    refine (lnIClone_nil _ _ w).mono ?_
    rintro e w' ⟨rfl, rfl⟩
    exact ⟨_, rfl, lnIs_of_own (World.ownsRow_nil w w.heap.size 3 1), (fun k hk => by cases hk), Below.refl _ _⟩
  | some a =>
    refine (lnIClone_some a c L hL w hA).mono ?_
    rintro e w' ⟨v, rfl, h1, h2⟩
    exact ⟨v, rfl, lnIs_of_own h1, far_of_own h1, h2⟩

theorem lnIOf_any (A : Option Addr) (c : Nat) (L : List Int) (hL : L.length ≤ 1000000) (w : World) (hA : LiesC w A (flatI L)) :
    Calls Try.prog 16 #[.slice A L.length c] w fun e w' => ∃ v, e = .returned (.agg #[v]) ∧ LnIs w' v L.length (flatI L) ∧ Far w.heap.size v ∧ Below w.heap.size w w' := by
  have hB : Below w.heap.size w (w.alloc (.cells #[.slice none 0 0] 44)) := (Below.refl _ w).alloc (Nat.le_refl _) _
  have hx := Cells.new w #[.slice none 0 0] 44
  have c1 := lnIClone_any A c L hL _ (hA.keep hB)
  rw [World.size_alloc] at c1
  have C1 := Lib.hid c1
  have H := Lib.hid (And.intro hB hx)
  clear c1 hB hx hA
  generalize L.length = n at *
  go_enter Try.func16, Try.ntmps16
  go_wp2_with (go_at_call 25; refine C1.out.mono ?_; rintro e w1 ⟨v, rfl, hv, hf, hb⟩
               obtain ⟨A1, c1, rfl, d1, d2, d3, d4⟩ := hv
               have k0 := (H.out.2.keep (hb.mono (by simp))).cell0
               have k1 := (H.out.2.keep (hb.mono (by simp))).frozen 0
               have hb' := Lib.hid (H.out.1.trans (hb.mono (by omega)))
               have HV := Lib.hid (And.intro (H.out.2.keep (hb.mono (by simp))) (And.intro hf (And.intro d1 (And.intro d2 (And.intro d3 d4)))))
               clear hf hb d1 d2 d3 d4)
  have B1 := hb'.out.setCell (p := ⟨w.heap.size, 0, none⟩) (Nat.le_refl _) (.slice A1 n c1)
  have hc := (HV.out.1.set_ 0 (.slice A1 n c1)).cell0
  refine bodyPost_ret (v := .agg #[.slice A1 n c1]) (by simp [results, Try.results16, go_sem, hc]) rfl ⟨_, rfl, ?_, HV.out.2.1.mono (by omega), B1⟩
  exact LnIs.only ⟨A1, c1, rfl, HV.out.2.2.1, HV.out.2.2.2.1, HV.out.2.2.2.2.1, HV.out.2.2.2.2.2⟩ ((Only.refl (fun i => i = w.heap.size) w1).setCell (p := ⟨w.heap.size, 0, none⟩) rfl _) (fun k hk e => by have := HV.out.2.1 k hk; omega)

theorem lnILen_any (A : Option Addr) (n c : Nat) (w : World) : Calls Try.prog 20 #[.agg #[.slice A n c]] w fun e w' => e = .returned (.int .i64 n) ∧ Below w.heap.size w w' := by
  have hx := (Cells.new w #[.slice A n c] 44).cell0
  have hB : Below w.heap.size w (w.alloc (.cells #[.slice A n c] 44)) := (Below.refl _ w).alloc (Nat.le_refl _) _
  go_enter Try.func20, Try.ntmps20
  go_wp2_with fail
  go_ret
  exact ⟨rfl, hB⟩

theorem lnIAll_any (A : Option Addr) (c : Nat) (L : List Int) (hL : L.length ≤ 1000000) (w : World) (hA : LiesC w A (flatI L)) :
    Calls Try.prog 18 #[.agg #[.slice A L.length c]] w fun e w' => ∃ v, e = .returned v ∧ LnIs w' v L.length (flatI L) ∧ Far w.heap.size v ∧ Below w.heap.size w w' := by
  have hB : Below w.heap.size w (w.alloc (.cells #[.slice A L.length c] 44)) := (Below.refl _ w).alloc (Nat.le_refl _) _
  have hx := (Cells.new w #[.slice A L.length c] 44).cell0
  have c1 := lnIClone_any A c L hL _ (hA.keep hB)
  rw [World.size_alloc] at c1
  have C1 := Lib.hid c1
  have H := Lib.hid hB
  clear c1 hB hA
  generalize L.length = n at *
  go_enter Try.func18, Try.ntmps18
  go_wp2_with (go_at_call 25; refine C1.out.mono ?_; rintro e w1 ⟨v, rfl, hv, hf, hb⟩)
  go_ret
  exact ⟨_, rfl, hv, hf.mono (by omega), H.out.trans (hb.mono (by omega))⟩

theorem two_newsI (w : World) (u : Value) (t1 : TypeId) (cs : Array Value) (t2 : TypeId) :
    Below w.heap.size w ((w.alloc (.cells #[u] t1)).alloc (.cells cs t2)) ∧ Cells ((w.alloc (.cells #[u] t1)).alloc (.cells cs t2)) w.heap.size t1 [u] ∧ Cells ((w.alloc (.cells #[u] t1)).alloc (.cells cs t2)) (w.heap.size + 1) t2 cs.toList := by
  refine ⟨((Below.refl _ w).alloc (Nat.le_refl _) _).alloc (by simp) _, (Cells.new w #[u] t1).alloc _, ?_⟩
  have := Cells.new (w.alloc (.cells #[u] t1)) cs t2
  rw [World.size_alloc] at this
  exact this

theorem lnIPeek_nil (A : Option Addr) (c : Nat) (w : World) : Calls Try.prog 28 #[.agg #[.slice A 0 c]] w fun e w' => e = .returned (.tuple #[(.int .i64 0), .bool false]) ∧ Below w.heap.size w w' := by
  obtain ⟨hB, hx, hy⟩ := two_newsI w (.slice A 0 c) 44 #[.int .i64 0] 3
  have HB := Lib.hid (And.intro hB (And.intro hx hy)); clear hB hx hy
  go_enter Try.func28, Try.ntmps28
  go_wp2_with fail
  go_ret2
  exact ⟨rfl, (Below.refl _ w).alloc (Nat.le_refl _) _⟩

theorem lnIPeek_some (A : Option Addr) (c : Nat) (L : List Int) (hL : L.length ≤ 1000000) (h0 : 0 < L.length) (x : Int) (hx0 : x = L.getD 0 0) (w : World) (hA : LiesC w A (flatI L)) : Calls Try.prog 28 #[.agg #[.slice A L.length c]] w fun e w' => e = .returned (.tuple #[.int .i64 x, .bool true]) ∧ Below w.heap.size w w' := by
  have hB : Below w.heap.size w (w.alloc (.cells #[.slice A L.length c] 44)) := (Below.refl _ w).alloc (Nat.le_refl _) _
  obtain ⟨b, off, rfl, hb, hc⟩ := (hA.keep hB).atI h0
  have hc0 := hc 0 h0
  rw [← hx0, Nat.add_zero] at hc0
  have HB := Lib.hid hB
  clear hc hA hB hx0
  generalize L.length = n at *
  go_enter Try.func28, Try.ntmps28
  go_wp2_with fail
  go_ret2
  exact ⟨rfl, HB.out⟩

/-- What an append without room leaves: all that was there, and a new row. -/
theorem lnI_grown {w W w' : World} {g cap n B : Nat} {cs xs : List Value} {t3 : TypeId} (hB : Below w.heap.size w W) (hown : w'.ownsRow W.heap.size 3 1 (.slice (some ⟨g, 0, none⟩) n cap) n cs) (hgrow : W.grownBy w' none) (hx : Cells W B t3 xs) :
    Below w.heap.size w w' ∧ Cells w' B t3 xs ∧ W.heap.size ≤ g ∧ B < W.heap.size :=
  ⟨below_grown0 hB hgrow hB.size, (hgrow.block B hx.lt (by simp)).trans hx, (hown.lt g rfl).1, hx.lt⟩
theorem lnI_done {w W w' : World} {g cap n B : Nat} {L : List Int} {xs : List Value} {t3 : TypeId} (h0 : w.heap.size ≤ B) (hB : Below w.heap.size w W) (hown : w'.ownsRow W.heap.size 3 1 (.slice (some ⟨g, 0, none⟩) n cap) n (flatI L)) (hgrow : W.grownBy w' none) (hx : Cells W B t3 xs) :
    LnIs (w'.setCell ⟨B, 0, none⟩ (.slice (some ⟨g, 0, none⟩) n cap)) (.slice (some ⟨g, 0, none⟩) n cap) n (flatI L) ∧ Far w.heap.size (.slice (some ⟨g, 0, none⟩) n cap) ∧ Below w.heap.size w (w'.setCell ⟨B, 0, none⟩ (.slice (some ⟨g, 0, none⟩) n cap)) := by
  obtain ⟨h1, h2, h3, h4⟩ := lnI_grown hB hown hgrow hx
  refine ⟨(lnIs_of_own hown).only ((Only.refl (fun i => i = B) w').setCell (p := ⟨B, 0, none⟩) rfl _) (fun k hk e => by have := (hown.lt k hk).1; omega), (far_of_own hown).mono hB.size, h1.setCell (by exact h0) _⟩

theorem lnIPush_any (A : Option Addr) (c : Nat) (L : List Int) (hL : L.length ≤ 1000000) (hc : L.length ≤ c) (hcm : c ≤ maxLen) (hn : A = none → c = 0) (x : Int) (w : World) (hA : LiesC w A (flatI L)) :
    Calls Try.prog 17 #[.agg #[.slice A L.length c], .int .i64 x] w fun e w' => ∃ v, e = .returned (.agg #[v]) ∧ LnIs w' v (L.length + 1) (flatI (L ++ [x])) ∧ Far w.heap.size v ∧ Below w.heap.size w w' := by
  obtain ⟨i0, hi0, hz0, hz1, hz3⟩ := infoI
  have hA0 : A = none → L.length = 0 := fun e => by have := hn e; omega
  obtain ⟨W, hW⟩ : ∃ W, ((w.alloc (.cells #[.slice A L.length c] 44)).alloc (.cells #[.slice none 0 0] 44)).alloc (.cells #[.int .i64 x] 3) = W := ⟨_, rfl⟩
  have hx3 : Cells W (w.heap.size + 1) 44 [.slice none 0 0] := by
    rw [← hW]
    have := (Cells.new (w.alloc (.cells #[.slice A L.length c] 44)) #[.slice none 0 0] 44).alloc (.cells #[.int .i64 x] 3)
    simp only [World.size_alloc] at this
    exact this
  have hx4 : Cells W (w.heap.size + 1 + 1) 3 (flatI [x]) := by
    rw [← hW]
    have := Cells.new ((w.alloc (.cells #[.slice A L.length c] 44)).alloc (.cells #[.slice none 0 0] 44)) #[.int .i64 x] 3
    simp only [World.size_alloc] at this
    exact this
  have hx1 : Cells W w.heap.size 44 [.slice A L.length c] := by
    rw [← hW]
    exact ((Cells.new w #[.slice A L.length c] 44).alloc (.cells #[.slice none 0 0] 44)).alloc (.cells #[.int .i64 x] 3)
  have p0 := hx1.cell0
  clear hx1
  have hb : Below w.heap.size w W := by
    rw [← hW]
    exact (((Below.refl _ w).alloc (Nat.le_refl _) _).alloc (by simp) _).alloc (by simp only [World.size_alloc]; omega) _
  have hl := hA.keep hb
  have holds : ∀ b, A = some b → ∀ j u, (flatI L)[j]? = some u → W.cell? (b.add j) = some u := fun b e => by subst e; exact hl.news
  have hfl : flatI L ++ flatI [x] = flatI (L ++ [x]) := (flatI_append L [x]).symm
  have H := Lib.hid (And.intro hx3 (And.intro hx4 (And.intro hb (And.intro holds (And.intro hfl hA0)))))
  clear hx3 hx4 hb holds hl hA hfl hA0
  have HF := Lib.hid (flatI_length L)
  generalize hm : L.length = n at *
  have HW := Lib.hid hW
  cases A with
  | none =>
    obtain rfl : c = 0 := hn rfl
    obtain rfl : n = 0 := by omega
    clear hn
    go_enter Try.func17, Try.ntmps17
    go_upto_region 2 with fail
    go_upto_region 3 with (at_builtin; refine wpList_append_grows _ rfl _ _ 42 rfl 3 i0 (.int .i64 0) 1 8 Try.underlying42 hi0 hz0 hz1 hz3 rfl (by decide) none 0 0 (flatI L) rfl (fun _ => ⟨rfl, rfl⟩) HF.out H.out.2.2.2.1 ⟨w.heap.size + 1 + 1, 0, none⟩ 1 1 (flatI [x]) rfl rfl H.out.2.1.news (flatI_one [x]) (by omega) (by unfold maxLen; omega) (by omega) ?_; intro v' w' hown hgrow; obtain ⟨g, cap, rfl, hg1, hg2⟩ := hown.form (by omega); have q := lnI_grown H.out.2.2.1 hown hgrow H.out.1; have q0 := q.2.1.cell0; have q1 := q.2.1.frozen 0)
    all_goals
      rw [H.out.2.2.2.2.1] at hown
      have D := lnI_done (by omega) H.out.2.2.1 hown hgrow H.out.1
      have z := (q.2.1.set_ 0 (.slice (some ⟨g, 0, none⟩) 1 cap)).cell0
      go_wp2_with fail
      refine bodyPost_ret (v := .agg #[.slice (some ⟨g, 0, none⟩) 1 cap]) (by simp [results, Try.results17, go_sem, z]) rfl ⟨_, rfl, D.1, D.2.1, D.2.2⟩
  | some a =>
    clear hn
    go_enter Try.func17, Try.ntmps17
    go_upto_region 2 with fail
    go_upto_region 3 with (at_builtin; refine wpList_append_grows _ rfl _ _ 42 rfl 3 i0 (.int .i64 0) 1 8 Try.underlying42 hi0 hz0 hz1 hz3 rfl (by decide) (some a) n n (flatI L) rfl (fun e => nomatch e) HF.out H.out.2.2.2.1 ⟨w.heap.size + 1 + 1, 0, none⟩ 1 1 (flatI [x]) rfl rfl H.out.2.1.news (flatI_one [x]) (by omega) (by unfold maxLen; omega) (by omega) ?_; intro v' w' hown hgrow; obtain ⟨g, cap, rfl, hg1, hg2⟩ := hown.form (by omega); have q := lnI_grown H.out.2.2.1 hown hgrow H.out.1; have q0 := q.2.1.cell0; have q1 := q.2.1.frozen 0)
    all_goals
      rw [H.out.2.2.2.2.1] at hown
      have D := lnI_done (by omega) H.out.2.2.1 hown hgrow H.out.1
      have z := (q.2.1.set_ 0 (.slice (some ⟨g, 0, none⟩) (n + 1) cap)).cell0
      go_wp2_with fail
      refine bodyPost_ret (v := .agg #[.slice (some ⟨g, 0, none⟩) (n + 1) cap]) (by simp [results, Try.results17, go_sem, z]) rfl ⟨_, rfl, D.1, D.2.1, D.2.2⟩
end Go.Proofs.Ytfklbbjmjkojjaa
