/- Package proof: May. · Package line, at lines of api.Pair. · Package line, at lines of api.Pair: Pop, Same. · Package means: onSession. · Package means: onSession of Get and Del. -/
import Derived.Test.YtiafjbhekfpkbaaGreatDoorJ9
import Derived.Test.YtiafjbhekfpkbaaGreatDoorJ0
import Derived.Lib.SliceRun
import Derived.Deep.RegionLaw
import Derived.Deep.RegionLawGrows
import Derived.BigQuiet
import Derived.Deep.DeepCutAuto
import Derived.Deep.QuietTactic
import Derived.Defers
import Derived.Recover
import Derived.Test.YtiafjbhekfpkbaaGreatDoorJ17
import Derived.Deep.RegionHeld3
namespace Go.Proofs.YtiafjbhekfpkbaaGreatDoor
set_option linter.unusedSimpArgs false
set_option linter.unusedVariables false
open Go.ChangeShapes Go.WideShapes Go.ChangeAt Go.RowKit Go.Maps
set_option linter.unusedSimpArgs false

theorem ordB_range {m : Nat} {O : List Int} (h : ordB m O = true) : ∀ k, k < O.length → 0 ≤ O.getD k 0 ∧ O.getD k 0 < m := fun k hk => by
  unfold ordB at h
  rw [List.all_eq_true] at h
  have := h k (List.mem_range.2 hk)
  unfold ordK at this
  simp only [Bool.and_eq_true, decide_eq_true_eq] at this
  exact this.1
theorem leftN_ltM (O : List Int) (m : Nat) : ∀ i, i < (leftN O m).length → (leftN O m).getD i 0 < m := fun i hi => (leftN_mem.1 (getD_memN hi)).1
set_option maxRecDepth 100000 in
set_option maxHeartbeats 2000000 in
theorem pMay_any (A D : Option Addr) (c d : Nat) (L : List Opr) (O : List Int) (hL : L.length ≤ 1000) (hO : O.length ≤ 1000) (hI : AllI O) (w : World) (ha : LiesC w A (flatF opF L)) (hd : LiesC w D (flatI O)) :
    Calls Tryz.prog 6 #[.slice A L.length c, .slice D O.length d] w fun e w' => e = .returned (.bool (mayO L O)) ∧ Below w.heap.size w w' := by
  have HA := Lib.hid ha
  have HO := Lib.hid hd
  have HX := Lib.hid (may_is L O)
  have CO := Lib.hid (fun W h => pIsOrder_any A D c d L.length O (by omega) (by omega) hI W h)
  have CL := Lib.hid (fun W h => pLeft_any A D c d L O (by omega) (by omega) hI W h)
  have hrl := leftN_len O L.length
  have CN := Lib.hid (fun (D : Option Addr) (d : Nat) (W : World) h1 h2 => pAny_any A D c d L (leftN O L.length) (by omega) (by omega) (leftN_ltM O L.length) W h1 h2)
  have CT := Lib.hid (fun (h : ordB L.length O = true) W h1 h2 => pInTurn_any A D c d L O (by omega) (by omega) (ordB_range h) W h1 h2)
  clear ha hd hI
  generalize hR : leftN O L.length = R at *
  generalize hio : ordB L.length O = io at *
  generalize hml : L.length = m at *
  generalize hol : O.length = l at *
  generalize hrn : R.length = n at *
  generalize anyB L R = an at *
  generalize turnB L O = tn at *
  cases io
  · have HF : Hid (mayO L O = false) := Lib.hid (by rw [HX.out]; rfl)
    clear hR hio CT HX
    go_enter Tryz.func6, Tryz.ntmps6
    go_wp2_with (go_at_call 13; refine (CO.out _ HO.out).mono ?_; rintro e w1 ⟨rfl, hb⟩)
    go_ret
    exact ⟨by rw [HF.out]; rfl, hb⟩
  · have CT1 := Lib.hid (CT.out rfl)
    clear CT
    cases an
    · have HF : Hid (mayO L O = tn) := Lib.hid (by rw [HX.out]; cases tn <;> rfl)
      clear hR hio HX
      go_enter Tryz.func6, Tryz.ntmps6
      go_wp2_with (first
        | (go_at_call 13; refine (CO.out _ HO.out).mono ?_; rintro e w1 ⟨rfl, hb⟩; have HB1 := Lib.hid hb; clear hb)
        | (go_at_call 15; refine (CL.out _ (HO.out.keep HB1.out)).mono ?_; rintro e w2 ⟨v1, rfl, hl1, -, hb⟩; obtain ⟨A1, c1, rfl, -, -, -, hl2, -⟩ := hl1; have HB2 := Lib.hid (HB1.out.trans (hb.mono HB1.out.size)); have HL := Lib.hid hl2; clear hb hl2)
        | (go_at_call 14; refine (CN.out A1 c1 _ (HA.out.keep HB2.out) HL.out).mono ?_; rintro e w3 ⟨rfl, hb⟩; have HB3 := Lib.hid (HB2.out.trans (hb.mono HB2.out.size)); clear hb)
        | (go_at_call 16; refine (CT1.out _ (HA.out.keep HB3.out) (HO.out.keep HB3.out)).mono ?_; rintro e w4 ⟨rfl, hb⟩; have HB4 := Lib.hid (HB3.out.trans (hb.mono HB3.out.size)); clear hb))
      go_ret
      exact ⟨by rw [HF.out]; rfl, HB4.out⟩
    · have HF : Hid (mayO L O = false) := Lib.hid (by rw [HX.out]; rfl)
      clear hR hio HX
      go_enter Tryz.func6, Tryz.ntmps6
      go_wp2_with (first
        | (go_at_call 13; refine (CO.out _ HO.out).mono ?_; rintro e w1 ⟨rfl, hb⟩; have HB1 := Lib.hid hb; clear hb)
        | (go_at_call 15; refine (CL.out _ (HO.out.keep HB1.out)).mono ?_; rintro e w2 ⟨v1, rfl, hl1, -, hb⟩; obtain ⟨A1, c1, rfl, -, -, -, hl2, -⟩ := hl1; have HB2 := Lib.hid (HB1.out.trans (hb.mono HB1.out.size)); have HL := Lib.hid hl2; clear hb hl2)
        | (go_at_call 14; refine (CN.out A1 c1 _ (HA.out.keep HB2.out) HL.out).mono ?_; rintro e w3 ⟨rfl, hb⟩; have HB3 := Lib.hid (HB2.out.trans (hb.mono HB2.out.size)); clear hb))
      go_ret
      exact ⟨by rw [HF.out]; rfl, HB3.out⟩
end Go.Proofs.YtiafjbhekfpkbaaGreatDoor
namespace Go.Proofs.YtiafjbhekfpkbaaGreatDoor
set_option linter.unusedSimpArgs false
set_option linter.unusedVariables false
open Go.ChangeShapes Go.WideShapes Go.ChangeAt Go.RowKit

theorem two_newsP (w : World) (u : Value) (t1 : TypeId) (cs : Array Value) (t2 : TypeId) :
    Below w.heap.size w ((w.alloc (.cells #[u] t1)).alloc (.cells cs t2)) ∧ Cells ((w.alloc (.cells #[u] t1)).alloc (.cells cs t2)) w.heap.size t1 [u] ∧ Cells ((w.alloc (.cells #[u] t1)).alloc (.cells cs t2)) (w.heap.size + 1) t2 cs.toList := by
  refine ⟨((Below.refl _ w).alloc (Nat.le_refl _) _).alloc (by simp) _, (Cells.new w #[u] t1).alloc _, ?_⟩
  have := Cells.new (w.alloc (.cells #[u] t1)) cs t2
  rw [World.size_alloc] at this
  exact this

theorem lnPPeek_nil (A : Option Addr) (c : Nat) (w : World) : Calls Tryz.prog 98 #[.agg #[.slice A 0 c]] w fun e w' => e = .returned (.tuple #[(.agg #[.int .u64 0, .int .u64 0]), .bool false]) ∧ Below w.heap.size w w' := by
  obtain ⟨hB, hx, hy⟩ := two_newsP w (.slice A 0 c) 67 #[.int .u64 0, .int .u64 0] 31
  have HB := Lib.hid (And.intro hB (And.intro hx hy)); clear hB hx hy
  go_enter Tryz.func98, Tryz.ntmps98
  go_wp2_with fail
  have hy := (HB.out.2.2.alloc (.cells #[.int .u64 0, .int .u64 0] 31))
  have e0 := hy.cell0
  have e1 := hy.cell1
  refine bodyPost_ret (v := .tuple #[(.agg #[.int .u64 0, .int .u64 0]), .bool false]) (by simp [results, Tryz.results98, go_sem, e0, e1]) rfl ⟨rfl, HB.out.1.alloc HB.out.1.size _⟩

theorem lnPPeek_some (A : Option Addr) (c : Nat) (L : List Pr) (hL : L.length ≤ 1000000) (h0 : 0 < L.length) (x : Pr) (hx0 : x = nthP L 0) (w : World) (hA : LiesC w A (flatP L)) : Calls Tryz.prog 98 #[.agg #[.slice A L.length c]] w fun e w' => e = .returned (.tuple #[.agg #[.int .u64 (x.a : Nat), .int .u64 (x.b : Nat)], .bool true]) ∧ Below w.heap.size w w' := by
  obtain ⟨hB, hx, hy⟩ := two_newsP w (.slice A L.length c) 67 #[.int .u64 0, .int .u64 0] 31
  obtain ⟨hB1, _, hy1⟩ := two_newsP w (.slice A L.length c) 67 #[.int .u64 (x.a : Nat), .int .u64 (x.b : Nat)] 31
  obtain ⟨b, off, rfl, hb, hc⟩ := (hA.keep hB).atP h0
  have hc0 := hc 0 h0
  rw [← hx0] at hc0
  rw [Nat.zero_mul, Nat.add_zero] at hc0
  obtain ⟨hc0, hc1⟩ := hc0
  have HB := Lib.hid (And.intro hB1 hy1)
  clear hc hA hB hx hx0 hy hB1 hy1
  generalize L.length = n at *
  go_enter Tryz.func98, Tryz.ntmps98
  go_wp2_with fail
  have e0 := HB.out.2.cell0
  have e1 := HB.out.2.cell1
  refine bodyPost_ret (v := .tuple #[.agg #[.int .u64 (x.a : Nat), .int .u64 (x.b : Nat)], .bool true]) (by simp [results, Tryz.results98, go_sem, e0, e1]) rfl ⟨rfl, HB.out.1⟩

/-- What an append without room leaves: all that was there, and a new row. -/
theorem lnP_grown {w W w' : World} {g cap n B : Nat} {cs xs : List Value} {t3 : TypeId} (hB : Below w.heap.size w W) (hown : w'.ownsRow W.heap.size 31 2 (.slice (some ⟨g, 0, none⟩) n cap) n cs) (hgrow : W.grownBy w' none) (hx : Cells W B t3 xs) :
    Below w.heap.size w w' ∧ Cells w' B t3 xs ∧ W.heap.size ≤ g ∧ B < W.heap.size :=
  ⟨below_grown0 hB hgrow hB.size, (hgrow.block B hx.lt (by simp)).trans hx, (hown.lt g rfl).1, hx.lt⟩
theorem lnP_done {w W w' : World} {g cap n B : Nat} {L : List Pr} {xs : List Value} {t3 : TypeId} (h0 : w.heap.size ≤ B) (hB : Below w.heap.size w W) (hown : w'.ownsRow W.heap.size 31 2 (.slice (some ⟨g, 0, none⟩) n cap) n (flatP L)) (hgrow : W.grownBy w' none) (hx : Cells W B t3 xs) :
    LnIs (w'.setCell ⟨B, 0, none⟩ (.slice (some ⟨g, 0, none⟩) n cap)) (.slice (some ⟨g, 0, none⟩) n cap) n (flatP L) ∧ Far w.heap.size (.slice (some ⟨g, 0, none⟩) n cap) ∧ Below w.heap.size w (w'.setCell ⟨B, 0, none⟩ (.slice (some ⟨g, 0, none⟩) n cap)) := by
  obtain ⟨h1, h2, h3, h4⟩ := lnP_grown hB hown hgrow hx
  refine ⟨(lnIs_of_own hown).only ((Only.refl (fun i => i = B) w').setCell (p := ⟨B, 0, none⟩) rfl _) (fun k hk e => by have := (hown.lt k hk).1; omega), (far_of_own hown).mono hB.size, h1.setCell (by exact h0) _⟩

theorem lnPPush_any (A : Option Addr) (c : Nat) (L : List Pr) (hL : L.length ≤ 1000000) (hc : L.length ≤ c) (hcm : c ≤ maxLen) (hn : A = none → c = 0) (x : Pr) (w : World) (hA : LiesC w A (flatP L)) :
    Calls Tryz.prog 96 #[.agg #[.slice A L.length c], .agg #[.int .u64 (x.a : Nat), .int .u64 (x.b : Nat)]] w fun e w' => ∃ v, e = .returned (.agg #[v]) ∧ LnIs w' v (L.length + 1) (flatP (L ++ [x])) ∧ Far w.heap.size v ∧ Below w.heap.size w w' := by
  obtain ⟨i0, hi0, hz0, hz1, hz3⟩ := infoP
  have hA0 : A = none → L.length = 0 := fun e => by have := hn e; omega
  obtain ⟨W, hW⟩ : ∃ W, ((((w.alloc (.cells #[.slice A L.length c] 67)).alloc (.cells #[.int .u64 (x.a : Nat), .int .u64 (x.b : Nat)] 31)).alloc (.cells #[.slice none 0 0] 67)).alloc (.cells #[.int .u64 (x.a : Nat), .int .u64 (x.b : Nat)] 31)).drew = W := ⟨_, rfl⟩
  have hx3 : Cells W (w.heap.size + 2) 67 [.slice none 0 0] := by
    rw [← hW]
    have := (Cells.new ((w.alloc (.cells #[.slice A L.length c] 67)).alloc (.cells #[.int .u64 (x.a : Nat), .int .u64 (x.b : Nat)] 31)) #[.slice none 0 0] 67).alloc (.cells #[.int .u64 (x.a : Nat), .int .u64 (x.b : Nat)] 31)
    simp only [World.size_alloc] at this
    exact this.drew
  have hx4 : Cells W (w.heap.size + 1 + 1 + 1) 31 (flatP [x]) := by
    rw [← hW]
    have := Cells.new (((w.alloc (.cells #[.slice A L.length c] 67)).alloc (.cells #[.int .u64 (x.a : Nat), .int .u64 (x.b : Nat)] 31)).alloc (.cells #[.slice none 0 0] 67)) #[.int .u64 (x.a : Nat), .int .u64 (x.b : Nat)] 31
    simp only [World.size_alloc] at this
    exact this.drew
  have hx1 : Cells W w.heap.size 67 [.slice A L.length c] := by
    rw [← hW]
    exact ((((Cells.new w #[.slice A L.length c] 67).alloc (.cells #[.int .u64 (x.a : Nat), .int .u64 (x.b : Nat)] 31)).alloc (.cells #[.slice none 0 0] 67)).alloc (.cells #[.int .u64 (x.a : Nat), .int .u64 (x.b : Nat)] 31)).drew
  have hx2 : Cells W (w.heap.size + 1) 31 (flatP [x]) := by
    rw [← hW]
    have := ((Cells.new (w.alloc (.cells #[.slice A L.length c] 67)) #[.int .u64 (x.a : Nat), .int .u64 (x.b : Nat)] 31).alloc (.cells #[.slice none 0 0] 67)).alloc (.cells #[.int .u64 (x.a : Nat), .int .u64 (x.b : Nat)] 31)
    simp only [World.size_alloc] at this
    exact this.drew
  have p0 := hx1.cell0
  have p1 := hx2.cell0
  have p2 := hx2.cell1
  clear hx1 hx2
  have hb : Below w.heap.size w W := by
    rw [← hW]
    exact ((((Below.refl _ w).alloc (Nat.le_refl _) _).alloc (by simp) _).alloc (by simp only [World.size_alloc]; omega) _).alloc (by simp only [World.size_alloc]; omega) _ |>.drew
  have hl := hA.keep hb
  have holds : ∀ b, A = some b → ∀ j u, (flatP L)[j]? = some u → W.cell? (b.add j) = some u := fun b e => by subst e; exact hl.news
  have hfl : flatP L ++ flatP [x] = flatP (L ++ [x]) := (flatP_append L [x]).symm
  have H := Lib.hid (And.intro hx3 (And.intro hx4 (And.intro hb (And.intro holds (And.intro hfl hA0)))))
  clear hx3 hx4 hb holds hl hA hfl hA0
  have HF := Lib.hid (flatP_length L)
  generalize hm : L.length = n at *
  have HW := Lib.hid hW
  cases A with
  | none =>
    obtain rfl : c = 0 := hn rfl
    obtain rfl : n = 0 := by omega
    clear hn
    go_enter Tryz.func96, Tryz.ntmps96
    go_upto_region 2 with fail
    go_region_law (refine step_append_grows rfl _ _ 65 rfl 31 i0 (.agg #[.int .u64 0, .int .u64 0]) 2 16 Tryz.underlying65 hi0 hz0 hz1 hz3 rfl (by decide) none 0 0 (flatP L) rfl (fun _ => ⟨rfl, rfl⟩) HF.out H.out.2.2.2.1 ⟨w.heap.size + 1 + 1 + 1, 0, none⟩ 1 1 (flatP [x]) rfl rfl H.out.2.1.news (flatP_one [x]) (by omega) (by unfold maxLen; omega) (by omega) ?_; intro v' w' hown hgrow; obtain ⟨g, cap, rfl, hg1, hg2⟩ := hown.form (by omega); have q := lnP_grown H.out.2.2.1 hown hgrow H.out.1; have q0 := q.2.1.cell0; have q1 := q.2.1.frozen 0)
    all_goals
      rw [H.out.2.2.2.2.1] at hown
      have D := lnP_done (by omega) H.out.2.2.1 hown hgrow H.out.1
      have z := (q.2.1.set_ 0 (.slice (some ⟨g, 0, none⟩) 1 cap)).cell0
      go_wp2_with fail
      refine bodyPost_ret (v := .agg #[.slice (some ⟨g, 0, none⟩) 1 cap]) (by simp [results, Tryz.results96, go_sem, z]) rfl ⟨_, rfl, D.1, D.2.1, D.2.2⟩
  | some a =>
    clear hn
    go_enter Tryz.func96, Tryz.ntmps96
    go_upto_region 2 with fail
    go_region_law (refine step_append_grows rfl _ _ 65 rfl 31 i0 (.agg #[.int .u64 0, .int .u64 0]) 2 16 Tryz.underlying65 hi0 hz0 hz1 hz3 rfl (by decide) (some a) n n (flatP L) rfl (fun e => nomatch e) HF.out H.out.2.2.2.1 ⟨w.heap.size + 1 + 1 + 1, 0, none⟩ 1 1 (flatP [x]) rfl rfl H.out.2.1.news (flatP_one [x]) (by omega) (by unfold maxLen; omega) (by omega) ?_; intro v' w' hown hgrow; obtain ⟨g, cap, rfl, hg1, hg2⟩ := hown.form (by omega); have q := lnP_grown H.out.2.2.1 hown hgrow H.out.1; have q0 := q.2.1.cell0; have q1 := q.2.1.frozen 0)
    all_goals
      rw [H.out.2.2.2.2.1] at hown
      have D := lnP_done (by omega) H.out.2.2.1 hown hgrow H.out.1
      have z := (q.2.1.set_ 0 (.slice (some ⟨g, 0, none⟩) (n + 1) cap)).cell0
      go_wp2_with fail
      refine bodyPost_ret (v := .agg #[.slice (some ⟨g, 0, none⟩) (n + 1) cap]) (by simp [results, Tryz.results96, go_sem, z]) rfl ⟨_, rfl, D.1, D.2.1, D.2.2⟩
end Go.Proofs.YtiafjbhekfpkbaaGreatDoor
namespace Go.Proofs.YtiafjbhekfpkbaaGreatDoor
set_option linter.unusedSimpArgs false
set_option linter.unusedVariables false
open Go.ChangeShapes Go.WideShapes Go.ChangeAt Go.RowKit

theorem lnPPop_nil (A : Option Addr) (c : Nat) (w : World) : Calls Tryz.prog 97 #[.agg #[.slice A 0 c]] w fun e w' => e = .returned (.tuple #[.agg #[.slice A 0 c], (.agg #[.int .u64 0, .int .u64 0]), .bool false]) ∧ Below w.heap.size w w' := by
  obtain ⟨W, hW⟩ : ∃ W, ((w.alloc (.cells #[.slice A 0 c] 67)).alloc (.cells #[.slice none 0 0] 67)).alloc (.cells #[.int .u64 0, .int .u64 0] 31) = W := ⟨_, rfl⟩
  have hx1 : Cells W w.heap.size 67 [.slice A 0 c] := by
    rw [← hW]
    exact ((Cells.new w #[.slice A 0 c] 67).alloc _).alloc _
  have hx2 : Cells W (w.heap.size + 1) 67 [.slice none 0 0] := by
    rw [← hW]
    have := (Cells.new (w.alloc (.cells #[.slice A 0 c] 67)) #[.slice none 0 0] 67).alloc (.cells #[.int .u64 0, .int .u64 0] 31)
    simp only [World.size_alloc] at this
    exact this
  have hx3 : Cells W (w.heap.size + 1 + 1) 31 [.int .u64 0, .int .u64 0] := by
    rw [← hW]
    have := Cells.new ((w.alloc (.cells #[.slice A 0 c] 67)).alloc (.cells #[.slice none 0 0] 67)) #[.int .u64 0, .int .u64 0] 31
    simp only [World.size_alloc] at this
    exact this
  have hb : Below w.heap.size w W := by
    rw [← hW]
    exact (((Below.refl _ w).alloc (Nat.le_refl _) _).alloc (by simp) _).alloc (by simp only [World.size_alloc]; omega) _
  have p0 := hx1.cell0
  have C1 := Lib.hid (lnPPeek_nil A c W)
  have H := Lib.hid (And.intro hb (And.intro hx1 (And.intro hx2 hx3)))
  clear hb hx1 hx2 hx3
  go_enter Tryz.func97, Tryz.ntmps97
  go_upto_region 3 with (go_at_call 98; refine C1.out.mono ?_; rintro e w1 ⟨rfl, hb1⟩)
  have d1 := (H.out.2.1.keep hb1).alloc (.cells #[.int .u64 0, .int .u64 0] 31)
  have d2 := (H.out.2.2.1.keep hb1).alloc (.cells #[.int .u64 0, .int .u64 0] 31)
  have d3 := (H.out.2.2.2.keep hb1).alloc (.cells #[.int .u64 0, .int .u64 0] 31)
  have d4 := Cells.new w1 #[.int .u64 0, .int .u64 0] 31
  have hb2 := (H.out.1.trans (hb1.mono H.out.1.size)).alloc (by have := H.out.1.size; have := hb1.size; omega) (.cells #[.int .u64 0, .int .u64 0] 31)
  have e2 := (d2.set_ 0 (.slice A 0 c)).far (p := ⟨w.heap.size + 1 + 1, 0, none⟩) (by simp) (.int .u64 0)
  have e3 := (d3.far (p := ⟨w.heap.size + 1, 0, none⟩) (by simp) (.slice A 0 c)).set_ 0 (.int .u64 0)
  have e2' := e2.far (p := ⟨w.heap.size + 1 + 1, 1, none⟩) (by simp) (.int .u64 0)
  have e3' := e3.set_ 1 (.int .u64 0)
  obtain ⟨W2, hW2⟩ : ∃ W2, w1.alloc (.cells #[.int .u64 0, .int .u64 0] 31) = W2 := ⟨_, rfl⟩
  have hsz : w1.heap.size ≠ w.heap.size + 1 ∧ w1.heap.size ≠ w.heap.size + 1 + 1 := ⟨by have := H.out.2.2.2.lt; have := hb1.size; omega, by have := H.out.2.2.2.lt; have := hb1.size; omega⟩
  rw [hW2] at d1 d2 d3 d4 hb2 e2 e3 e2' e3' ⊢
  generalize w1.heap.size = h1 at *
  clear hW2 hW p0 C1 hb1
  have a0 := d1.cell0
  have a1 := d4.cell0
  have a2 := d4.cell1
  have a3 := d2.cell0
  have a4 := d2.frozen 0
  have a5 := d3.cell0
  have a6 := d3.frozen 0
  have a7 := d3.cell1
  have a8 := d3.frozen 1
  have r0 := e2'.cell0
  have r1 := e3'.cell0
  have r2 := e3'.cell1
  have HQ := Lib.hid (And.intro e2' (And.intro e3' (And.intro hb2 (And.intro r0 (And.intro r1 r2)))))
  clear d1 d2 d3 d4 e2 e3 e2' e3' hb2 r0 r1 r2
  go_region
  have z0 := HQ.out.2.2.2.1
  have z1 := HQ.out.2.2.2.2.1
  have z2 := HQ.out.2.2.2.2.2
  go_wp2_with fail
  refine bodyPost_ret (v := .tuple #[.agg #[.slice A 0 c], (.agg #[.int .u64 0, .int .u64 0]), .bool false]) (by simp [results, Tryz.results97, go_sem, z0, z1, z2]) rfl ⟨rfl, ?_⟩
  exact (((HQ.out.2.2.1.setCell (p := ⟨w.heap.size + 1, 0, none⟩) (by simp) _).setCell (p := ⟨w.heap.size + 1 + 1, 0, none⟩) (by show w.heap.size ≤ w.heap.size + 1 + 1; omega) _).setCell (p := ⟨w.heap.size + 1 + 1, 1, none⟩) (by show w.heap.size ≤ w.heap.size + 1 + 1; omega) _).drew
theorem lnPPop_some (A : Option Addr) (c : Nat) (x : Pr) (M : List Pr) (hL : M.length ≤ 900000) (hc : M.length + 1 ≤ c) (hcm : c ≤ maxLen) (w : World) (hA : LiesC w A (flatP (x :: M))) :
    Calls Tryz.prog 97 #[.agg #[.slice A (M.length + 1) c]] w fun e w' => ∃ v, e = .returned (.tuple #[.agg #[v], .agg #[.int .u64 (x.a : Nat), .int .u64 (x.b : Nat)], .bool true]) ∧ LnIs w' v M.length (flatP M) ∧ v.ownBlock = (Value.slice A 0 0).ownBlock ∧ Below w.heap.size w w' := by
  have hlM : (x :: M).length = M.length + 1 := rfl
  have c1 := fun W h => lnPPeek_some A c (x :: M) (by rw [hlM]; omega) (by rw [hlM]; omega) x rfl W h
  rw [hlM] at c1
  clear hlM
  generalize hn : M.length = n at *
  obtain ⟨W, hW⟩ : ∃ W, ((w.alloc (.cells #[.slice A (n + 1) c] 67)).alloc (.cells #[.slice none 0 0] 67)).alloc (.cells #[.int .u64 0, .int .u64 0] 31) = W := ⟨_, rfl⟩
  have hx1 : Cells W w.heap.size 67 [.slice A (n + 1) c] := by
    rw [← hW]
    exact ((Cells.new w #[.slice A (n + 1) c] 67).alloc _).alloc _
  have hx2 : Cells W (w.heap.size + 1) 67 [.slice none 0 0] := by
    rw [← hW]
    have := (Cells.new (w.alloc (.cells #[.slice A (n + 1) c] 67)) #[.slice none 0 0] 67).alloc (.cells #[.int .u64 0, .int .u64 0] 31)
    simp only [World.size_alloc] at this
    exact this
  have hx3 : Cells W (w.heap.size + 1 + 1) 31 [.int .u64 0, .int .u64 0] := by
    rw [← hW]
    have := Cells.new ((w.alloc (.cells #[.slice A (n + 1) c] 67)).alloc (.cells #[.slice none 0 0] 67)) #[.int .u64 0, .int .u64 0] 31
    simp only [World.size_alloc] at this
    exact this
  have hb : Below w.heap.size w W := by
    rw [← hW]
    exact (((Below.refl _ w).alloc (Nat.le_refl _) _).alloc (by simp) _).alloc (by simp only [World.size_alloc]; omega) _
  have p0 := hx1.cell0
  have C1 := Lib.hid (c1 W (hA.keep hb))
  have H := Lib.hid (And.intro hb (And.intro hx1 (And.intro hx2 hx3)))
  clear hb hx1 hx2 hx3 c1
  go_enter Tryz.func97, Tryz.ntmps97
  go_upto_region 4 with (go_at_call 98; refine C1.out.mono ?_; rintro e w1 ⟨rfl, hb1⟩)
  obtain ⟨b, off, rfl, hb, hx⟩ := hA.some_ (by rw [flatP_length]; simp)
  have d1 := (H.out.2.1.keep hb1).alloc (.cells #[.int .u64 (x.a : Nat), .int .u64 (x.b : Nat)] 31)
  have d2 := (H.out.2.2.1.keep hb1).alloc (.cells #[.int .u64 (x.a : Nat), .int .u64 (x.b : Nat)] 31)
  have d3 := (H.out.2.2.2.keep hb1).alloc (.cells #[.int .u64 (x.a : Nat), .int .u64 (x.b : Nat)] 31)
  have d4 := Cells.new w1 #[.int .u64 (x.a : Nat), .int .u64 (x.b : Nat)] 31
  have hb2 := (H.out.1.trans (hb1.mono H.out.1.size)).alloc (by have := H.out.1.size; have := hb1.size; omega) (.cells #[.int .u64 (x.a : Nat), .int .u64 (x.b : Nat)] 31)
  have e2 := (d2.set_ 0 (.slice (if c = 1 then some ⟨b, off, none⟩ else some ⟨b, off + 2, none⟩) n (c - 1))).far (p := ⟨w.heap.size + 1 + 1, 0, none⟩) (by simp) (.int .u64 (x.a : Nat))
  have e3 := (d3.far (p := ⟨w.heap.size + 1, 0, none⟩) (by simp) (.slice (if c = 1 then some ⟨b, off, none⟩ else some ⟨b, off + 2, none⟩) n (c - 1))).set_ 0 (.int .u64 (x.a : Nat))
  have e2' := e2.far (p := ⟨w.heap.size + 1 + 1, 1, none⟩) (by simp) (.int .u64 (x.b : Nat))
  have e3' := e3.set_ 1 (.int .u64 (x.b : Nat))
  obtain ⟨W2, hW2⟩ : ∃ W2, w1.alloc (.cells #[.int .u64 (x.a : Nat), .int .u64 (x.b : Nat)] 31) = W2 := ⟨_, rfl⟩
  have hsz : w1.heap.size ≠ w.heap.size + 1 ∧ w1.heap.size ≠ w.heap.size + 1 + 1 := ⟨by have := H.out.2.2.2.lt; have := hb1.size; omega, by have := H.out.2.2.2.lt; have := hb1.size; omega⟩
  rw [hW2] at d1 d2 d3 d4 hb2 e2 e3 e2' e3' ⊢
  generalize w1.heap.size = h1 at *
  clear hW2 hW p0 C1 hb1
  have a0 := d1.cell0
  have a1 := d4.cell0
  have a2 := d4.cell1
  have a3 := d2.cell0
  have a4 := d2.frozen 0
  have a5 := d3.cell0
  have a6 := d3.frozen 0
  have a7 := d3.cell1
  have a8 := d3.frozen 1
  have r0 := e2'.cell0
  have r1 := e3'.cell0
  have r2 := e3'.cell1
  have HQ := Lib.hid (And.intro e2' (And.intro e3' (And.intro hb2 (And.intro r0 (And.intro r1 r2)))))
  clear d1 d2 d3 d4 e2 e3 e2' e3' hb2 r0 r1 r2
  go_region
  have hA' : ∃ A', (if c = 1 then some ⟨b, off, none⟩ else some ⟨b, off + 2, none⟩) = A' ∧ ((c = 1 → A' = some ⟨b, off, none⟩) ∧ (¬ c = 1 → A' = some (⟨b, off + 2, none⟩ : Addr))) := ⟨_, rfl, fun h => by rw [if_pos h], fun h => by rw [if_neg h]⟩
  obtain ⟨A', hA1, hA2⟩ := hA'
  rw [hA1] at HQ ⊢
  clear hA1
  obtain ⟨off', hA1⟩ : ∃ o, A' = some ⟨b, o, none⟩ := by
    by_cases h1 : c = 1
    · exact ⟨_, hA2.1 h1⟩
    · exact ⟨_, hA2.2 h1⟩
  subst hA1
  have z0 := HQ.out.2.2.2.1
  have z1 := HQ.out.2.2.2.2.1
  have z2 := HQ.out.2.2.2.2.2
  go_wp2_with fail
  refine bodyPost_ret (v := .tuple #[.agg #[.slice (some ⟨b, off', none⟩) n (c - 1)], .agg #[.int .u64 (x.a : Nat), .int .u64 (x.b : Nat)], .bool true]) (by simp [results, Tryz.results97, go_sem, z0, z1, z2]) rfl ⟨_, rfl, ?_, ?_, ?_⟩
  · have ho := only_below HQ.out.2.2.1 (fun i => w.heap.size ≤ i)
    have hl := hA.only ho (fun a e h => by cases e; exact absurd h (by show ¬ w.heap.size ≤ b; omega))
    have ho2 := ((((Only.refl (fun i => w.heap.size ≤ i) W2).setCell (p := ⟨w.heap.size + 1, 0, none⟩) (by show _ ≤ _; simp) (.slice (some ⟨b, off', none⟩) n (c - 1))).setCell (p := ⟨w.heap.size + 1 + 1, 0, none⟩) (by show w.heap.size ≤ w.heap.size + 1 + 1; omega) (.int .u64 (x.a : Nat))).setCell (p := ⟨w.heap.size + 1 + 1, 1, none⟩) (by show w.heap.size ≤ w.heap.size + 1 + 1; omega) (.int .u64 (x.b : Nat))).drew
    have hb3 : b < W2.heap.size := Nat.lt_of_lt_of_le hb HQ.out.2.2.1.size
    have hl2 := (hl.only ho2 (fun a e h => by cases e; exact absurd h (by show ¬ w.heap.size ≤ b; omega)))
    refine ⟨_, _, rfl, by omega, by unfold maxLen at *; omega, fun e => ?_, ?_, fun a e => ?_⟩
    · cases e
    · by_cases h1 : c = 1
      · have : M = [] := List.eq_nil_of_length_eq_zero (by omega)
        rw [this]; exact .inl rfl
      · have e := hA2.2 h1
        cases e
        exact hl2.drop (k := 2)
    · have hs := ho2.size
      cases e
      exact Nat.lt_of_lt_of_le hb3 hs
  · rfl
  · exact (((HQ.out.2.2.1.setCell (p := ⟨w.heap.size + 1, 0, none⟩) (by simp) _).setCell (p := ⟨w.heap.size + 1 + 1, 0, none⟩) (by show w.heap.size ≤ w.heap.size + 1 + 1; omega) _).setCell (p := ⟨w.heap.size + 1 + 1, 1, none⟩) (by show w.heap.size ≤ w.heap.size + 1 + 1; omega) _).drew

theorem eqP_ne {L M : List Pr} {k : Nat} (h : decide (nthP L k = nthP M k) = false) : decide (L = M) = false := decide_eq_false fun e => by rw [e] at h; simp at h
theorem eqP_eq {L M : List Pr} (hl : L.length = M.length) (h : ∀ i, i < L.length → nthP L i = nthP M i) : decide (L = M) = true := decide_eq_true (nthP_ext hl h)
theorem eqP_len {L M : List Pr} (h : L.length ≠ M.length) : decide (L = M) = false := decide_eq_false fun e => h (by rw [e])


end Go.Proofs.YtiafjbhekfpkbaaGreatDoor
namespace Go.Proofs.YtiafjbhekfpkbaaGreatDoor
set_option linter.unusedSimpArgs false
set_option linter.unusedVariables false
open Go.ChangeShapes Go.WideShapes Go.ChangeAt Go.RowKit
set_option linter.unusedSimpArgs false

/-- What a call of sessions does: the rows behind. -/
def sessL (O : List Rw) (op key : Int) (pa pb : Nat) : List Rw := bif decide (op = 0) then putL O ⟨key, pa, pb⟩ else bif decide (op = 2) then dropL O key else O
/-- What it is answered. -/
def sessA (O : List Rw) (op key : Int) : Value :=
  bif decide (op = 0) then (bif isAt O key then ansV 7 0 0 0 0 0 else ansV 0 0 0 0 0 0)
  else bif decide (op = 1) || decide (op = 2) then (bif isAt O key then ansV 0 (dropX O key).a (dropX O key).b 0 0 0 else ansV 6 0 0 0 0 0)
  else ansV 0 0 0 0 0 0

/-- A pair of results in two blocks: a list, an answer. -/
theorem res_two {w3 : World} {g : Nat} {t2 t3 : TypeId} {u a0 a1 a2 a3 a4 a5 : Value} (h2 : Cells w3 (g + 1 + 1) t2 [u]) (h3 : Cells w3 (g + 1 + 1 + 1) t3 [a0, a1, a2, a3, a4, a5]) (v b0 b1 b2 b3 b4 b5 : Value) : ∀ X, ((((((w3.setCell ⟨g + 1 + 1, 0, none⟩ v).setCell ⟨g + 1 + 1 + 1, 0, none⟩ b0).setCell ⟨g + 1 + 1 + 1, 1, none⟩ b1).setCell ⟨g + 1 + 1 + 1, 2, none⟩ b2).setCell ⟨g + 1 + 1 + 1, 3, none⟩ b3).setCell ⟨g + 1 + 1 + 1, 4, none⟩ b4).setCell ⟨g + 1 + 1 + 1, 5, none⟩ b5 = X →
    Cells X (g + 1 + 1) t2 [v] ∧ Cells X (g + 1 + 1 + 1) t3 [b0, b1, b2, b3, b4, b5] ∧ Only (fun i => g ≤ i ∧ i < g + 4) w3 X := by
  rintro X rfl
  have hne : g + 1 + 1 ≠ g + 1 + 1 + 1 := by omega
  have hne' : g + 1 + 1 + 1 ≠ g + 1 + 1 := by omega
  refine ⟨((((((h2.set_ 0 v).far (p := ⟨g + 1 + 1 + 1, 0, none⟩) hne _).far (p := ⟨g + 1 + 1 + 1, 1, none⟩) hne _).far (p := ⟨g + 1 + 1 + 1, 2, none⟩) hne _).far (p := ⟨g + 1 + 1 + 1, 3, none⟩) hne _).far (p := ⟨g + 1 + 1 + 1, 4, none⟩) hne _).far (p := ⟨g + 1 + 1 + 1, 5, none⟩) hne _,
    ((((((h3.far (p := ⟨g + 1 + 1, 0, none⟩) hne' v).set_ 0 b0).set_ 1 b1).set_ 2 b2).set_ 3 b3).set_ 4 b4).set_ 5 b5, ?_⟩
  have k2 : g ≤ g + 1 + 1 ∧ g + 1 + 1 < g + 4 := by omega
  have k3 : g ≤ g + 1 + 1 + 1 ∧ g + 1 + 1 + 1 < g + 4 := by omega
  exact ((((((Only.setCell (Only.refl (fun i => g ≤ i ∧ i < g + 4) w3) (p := ⟨g + 1 + 1, 0, none⟩) k2 v).setCell (p := ⟨g + 1 + 1 + 1, 0, none⟩) k3 b0).setCell (p := ⟨g + 1 + 1 + 1, 1, none⟩) k3 b1).setCell (p := ⟨g + 1 + 1 + 1, 2, none⟩) k3 b2).setCell (p := ⟨g + 1 + 1 + 1, 3, none⟩) k3 b3).setCell (p := ⟨g + 1 + 1 + 1, 4, none⟩) k3 b4).setCell (p := ⟨g + 1 + 1 + 1, 5, none⟩) k3 b5
/-- Five blocks, one behind the other. -/
theorem five_cells (w : World) (c0 c1 c2 c3 c4 : Array Value) (t0 t1 t2 t3 t4 : TypeId) : ∀ W, ((((w.alloc (.cells c0 t0)).alloc (.cells c1 t1)).alloc (.cells c2 t2)).alloc (.cells c3 t3)).alloc (.cells c4 t4) = W →
    Below w.heap.size w W ∧ Cells W w.heap.size t0 c0.toList ∧ Cells W (w.heap.size + 1) t1 c1.toList ∧ Cells W (w.heap.size + 1 + 1) t2 c2.toList ∧ Cells W (w.heap.size + 1 + 1 + 1) t3 c3.toList ∧ Cells W (w.heap.size + 1 + 1 + 1 + 1) t4 c4.toList := by
  rintro W rfl
  have h1 := Cells.new (w.alloc (.cells c0 t0)) c1 t1
  have h2 := Cells.new ((w.alloc (.cells c0 t0)).alloc (.cells c1 t1)) c2 t2
  have h3 := Cells.new (((w.alloc (.cells c0 t0)).alloc (.cells c1 t1)).alloc (.cells c2 t2)) c3 t3
  have h4 := Cells.new ((((w.alloc (.cells c0 t0)).alloc (.cells c1 t1)).alloc (.cells c2 t2)).alloc (.cells c3 t3)) c4 t4
  simp only [World.size_alloc] at h1 h2 h3 h4
  exact ⟨((((((Below.refl _ w).alloc (Nat.le_refl _) _).alloc (by simp) _).alloc (by simp; omega) _).alloc (by simp; omega) _).alloc (by simp; omega) _), ((((Cells.new w c0 t0).alloc _).alloc _).alloc _).alloc _, ((h1.alloc _).alloc _).alloc _, (h2.alloc _).alloc _, h3.alloc _, h4⟩
theorem told_parts {w : World} {v : Value} {L : List Rw} (h : Told w v L) : ∃ A c, v = .slice A L.length c := by
  obtain ⟨A, c, e, _⟩ := h
  exact ⟨A, c, e⟩
theorem told_keep {w w' : World} {v : Value} {L : List Rw} (h : Told w v L) (hb : Below w.heap.size w w') : Told w' v L := by
  obtain ⟨A, c, e, hl⟩ := h
  exact ⟨A, c, e, hl.keep hb⟩
theorem toldO_up {w : World} {B B' : Nat} {v : Value} {L : List Rw} (h : ToldO w B v L) (hb : B' ≤ B) : ToldO w B' v L := toldO_of h hb
theorem toldO_only {F : Nat → Prop} {w w' : World} {B : Nat} {v : Value} {L : List Rw} (h : ToldO w B v L) (ho : Only F w w') (hF : ∀ i, F i → i < B) : ToldO w' B v L := own_only h ho hF
theorem told_onlyT {F : Nat → Prop} {w w' : World} {v : Value} {L : List Rw} (h : Told w v L) (ho : Only F w w') (hn : ∀ k, v.ownBlock = some k → 0 < L.length → ¬ F k) : Told w' v L := by
  obtain ⟨A, c, rfl, hl⟩ := h
  exact ⟨A, c, rfl, hl.only ho fun a e h0 => hn a.block (by rw [e]; rfl) h0⟩

set_option maxRecDepth 100000 in
set_option maxHeartbeats 2000000 in
theorem mSess_put (A : Option Addr) (c : Nat) (L : List Rw) (hL : L.length ≤ 100000) (l key : Int) (pa pb hd : Nat) (r : Int) (w : World) (hl : Lies w A L) :
    Calls Tryz.prog 74 #[.agg #[.slice A L.length c], .agg #[.int .i64 0, .int .i64 l, .int .i64 key, .int .u64 (pa : Nat), .int .u64 (pb : Nat), .int .u64 (hd : Nat), .int .i64 r]] w fun e w' => ∃ v, e = .returned (.tuple #[.agg #[v], bif isAt L key then ansV 7 0 0 0 0 0 else ansV 0 0 0 0 0 0]) ∧ Told w' v (putL L ⟨key, pa, pb⟩) ∧ Below w.heap.size w w' := by
  have C1 := Lib.hid (fun W => mRow_any 0 l key pa pb hd r W)
  have C2 := Lib.hid (fun W (hb : Below w.heap.size w W) => rPutO_any A c L (by omega) ⟨key, pa, pb⟩ W (hl.keep hb))
  have HA := Lib.hid hl
  have HP := Lib.hid (show isAt L key = true → putL L ⟨key, pa, pb⟩ = L from fun h => by unfold putL; rw [h]; rfl)
  clear hl
  generalize hn : L.length = n at *
  have HN := Lib.hid hn; clear hn
  go_enter Tryz.func74, Tryz.ntmps74
  go_upto_region 6 with fail
  generalize hW : World.alloc _ _ = W
  obtain ⟨hB, x0, x1, x2, x3, x4⟩ := five_cells _ _ _ _ _ _ _ _ _ _ _ W hW
  clear hW
  generalize hg : w.heap.size = g at *
  have HG := Lib.hid hg; clear hg
  have HK : Hid (∀ w', Below W.heap.size W w' → (Below W.heap.size W w' ∧ w'.cell? ⟨g, 0, none⟩ = some (.slice A n c) ∧ w'.cell? ⟨g + 1, 0, none⟩ = some (.int .i64 0) ∧ w'.cell? ⟨g + 1, 1, none⟩ = some (.int .i64 l) ∧ w'.cell? ⟨g + 1, 2, none⟩ = some (.int .i64 key) ∧ w'.cell? ⟨g + 1, 3, none⟩ = some (.int .u64 (pa : Nat)) ∧ w'.cell? ⟨g + 1, 4, none⟩ = some (.int .u64 (pb : Nat)) ∧ w'.cell? ⟨g + 1, 5, none⟩ = some (.int .u64 (hd : Nat)) ∧ w'.cell? ⟨g + 1, 6, none⟩ = some (.int .i64 r))) := Lib.hid fun W' hb => ⟨hb, (x0.keep hb).cell 0, (x1.keep hb).cell 0, (x1.keep hb).cell 1, (x1.keep hb).cell 2, (x1.keep hb).cell 3, (x1.keep hb).cell 4, (x1.keep hb).cell 5, (x1.keep hb).cell 6⟩
  have HXS := Lib.hid (And.intro hB (And.intro x0 (And.intro x2 x3)))
  have HGW : Hid (g + 5 ≤ W.heap.size) := Lib.hid (by have := x4.lt; omega)
  clear x0 x1 x2 x3 x4 hB
  refine wp_region_noPanic ?_
  refine wp_region_held_drew (S := fun w' => (Below W.heap.size W w' ∧ w'.cell? ⟨g, 0, none⟩ = some (.slice A n c) ∧ w'.cell? ⟨g + 1, 0, none⟩ = some (.int .i64 0) ∧ w'.cell? ⟨g + 1, 1, none⟩ = some (.int .i64 l) ∧ w'.cell? ⟨g + 1, 2, none⟩ = some (.int .i64 key) ∧ w'.cell? ⟨g + 1, 3, none⟩ = some (.int .u64 (pa : Nat)) ∧ w'.cell? ⟨g + 1, 4, none⟩ = some (.int .u64 (pb : Nat)) ∧ w'.cell? ⟨g + 1, 5, none⟩ = some (.int .u64 (hd : Nat)) ∧ w'.cell? ⟨g + 1, 6, none⟩ = some (.int .i64 r))) (by kernel_rfl) (HK.out _ (Below.refl _ _).drew) (fun hHeld => ?_)
  try simp only [List.size_toArray, List.length_cons, List.length_nil, Nat.reduceAdd, Nat.reduceSub, Array.replicate_succ, Array.replicate_zero, List.push_toArray, List.append_toArray, List.nil_append, List.cons_append]   -- the listed as a literal: else each operation taken costs more than the last
  (refine wpAnyH_take (i := 0) (v := ?_) rfl (by kernel_rfl) (by kernel_rfl) (by kernel_rfl) (fun _ _ _ h => h) (Or.inl ⟨by rfl, ?_⟩) hHeld ?_; rotate_left; focus (intro w hSw; (try dsimp only at hSw); go_simp; (try with_reducible rfl)))
  try simp only [Act.put, List.getElem_toArray, List.getElem_cons_succ, List.getElem_cons_zero, List.setIfInBounds_toArray, List.set_cons_zero, List.set_cons_succ]
  (refine wpAnyH_take (i := 1) (v := ?_) rfl (by kernel_rfl) (by kernel_rfl) (by kernel_rfl) (fun _ _ _ h => h) (Or.inl ⟨by rfl, ?_⟩) hHeld ?_; rotate_left; focus (intro w hSw; (try dsimp only at hSw); go_simp; (try with_reducible rfl)))
  try simp only [Act.put, List.getElem_toArray, List.getElem_cons_succ, List.getElem_cons_zero, List.setIfInBounds_toArray, List.set_cons_zero, List.set_cons_succ]
  (refine wpAnyH_take (i := 2) (v := ?_) rfl (by kernel_rfl) (by kernel_rfl) (by kernel_rfl) (fun _ _ _ h => h) (Or.inl ⟨by rfl, ?_⟩) hHeld ?_; rotate_left; focus (intro w hSw; (try dsimp only at hSw); go_simp; (try with_reducible rfl)))
  try simp only [Act.put, List.getElem_toArray, List.getElem_cons_succ, List.getElem_cons_zero, List.setIfInBounds_toArray, List.set_cons_zero, List.set_cons_succ]
  (refine wpAnyH_ready (rs := [3]) (by kernel_rfl) (by simp) ?_; refine AllReadyH.cons rfl (fun K hK => ?_) AllReadyH.nil; go_simp; (first | (go_at_call 89; refine (C1.out _).mono ?_; rintro e w' ⟨rfl, hb⟩) | (go_at_call 88; refine (C2.out _ (HXS.out.1.trans (hHeld.1.mono (by have := HGW.out; omega)))).mono ?_; rintro e w' ⟨v, rfl, hT, hb⟩; have HT := Lib.hid (toldO_up hT (Nat.le_trans HGW.out hHeld.1.size)); obtain ⟨A4, c4, rfl⟩ := told_parts (told_of_own hT); clear hT)); (try go_wp2_with fail); refine hK.out _ _ ?_ (fun hHeld' => ?_); (focus ((exact HK.out _ (hHeld.1.trans (hb.mono hHeld.1.size))))); clear hK K; replace hHeld := hHeld'; clear hHeld')
  try simp only [Act.put, List.getElem_toArray, List.getElem_cons_succ, List.getElem_cons_zero, List.setIfInBounds_toArray, List.set_cons_zero, List.set_cons_succ]
  (refine wpAnyH_ready (rs := [4]) (by kernel_rfl) (by simp) ?_; refine AllReadyH.cons rfl (fun K hK => ?_) AllReadyH.nil; go_simp; (first | (go_at_call 89; refine (C1.out _).mono ?_; rintro e w' ⟨rfl, hb⟩) | (go_at_call 88; refine (C2.out _ (HXS.out.1.trans (hHeld.1.mono (by have := HGW.out; omega)))).mono ?_; rintro e w' ⟨v, rfl, hT, hb⟩; have HT := Lib.hid (toldO_up hT (Nat.le_trans HGW.out hHeld.1.size)); obtain ⟨A4, c4, rfl⟩ := told_parts (told_of_own hT); clear hT)); (try go_wp2_with fail); refine hK.out _ _ ?_ (fun hHeld' => ?_); (focus ((exact HK.out _ (hHeld.1.trans (hb.mono hHeld.1.size))))); clear hK K; replace hHeld := hHeld'; clear hHeld')
  try simp only [Act.put, List.getElem_toArray, List.getElem_cons_succ, List.getElem_cons_zero, List.setIfInBounds_toArray, List.set_cons_zero, List.set_cons_succ]
  (refine wpAnyH_take (i := 5) (v := ?_) rfl (by kernel_rfl) (by kernel_rfl) (by kernel_rfl) (fun _ _ _ h => h) (Or.inl ⟨by rfl, ?_⟩) hHeld ?_; rotate_left; focus (intro w hSw; (try dsimp only at hSw); go_simp; (try with_reducible rfl)))
  try simp only [Act.put, List.getElem_toArray, List.getElem_cons_succ, List.getElem_cons_zero, List.setIfInBounds_toArray, List.set_cons_zero, List.set_cons_succ]
  (refine wpAnyH_take (i := 6) (v := ?_) rfl (by kernel_rfl) (by kernel_rfl) (by kernel_rfl) (fun _ _ _ h => h) (Or.inl ⟨by rfl, ?_⟩) hHeld ?_; rotate_left; focus (intro w hSw; (try dsimp only at hSw); go_simp; (try with_reducible rfl)))
  try simp only [Act.put, List.getElem_toArray, List.getElem_cons_succ, List.getElem_cons_zero, List.setIfInBounds_toArray, List.set_cons_zero, List.set_cons_succ]
  (refine wpAnyH_take (i := 7) (v := ?_) rfl (by kernel_rfl) (by kernel_rfl) (by kernel_rfl) (fun _ _ _ h => h) (Or.inl ⟨by rfl, ?_⟩) hHeld ?_; rotate_left; focus (intro w hSw; (try dsimp only at hSw); go_simp; (try with_reducible rfl)))
  try simp only [Act.put, List.getElem_toArray, List.getElem_cons_succ, List.getElem_cons_zero, List.setIfInBounds_toArray, List.set_cons_zero, List.set_cons_succ]
  (refine wpAnyH_take (i := 8) (v := ?_) rfl (by kernel_rfl) (by kernel_rfl) (by kernel_rfl) (fun _ _ _ h => h) (Or.inl ⟨by rfl, ?_⟩) hHeld ?_; rotate_left; focus (intro w hSw; (try dsimp only at hSw); go_simp; (try with_reducible rfl)))
  try simp only [Act.put, List.getElem_toArray, List.getElem_cons_succ, List.getElem_cons_zero, List.setIfInBounds_toArray, List.set_cons_zero, List.set_cons_succ]
  (refine wpAnyH_take (i := 9) (v := ?_) rfl (by kernel_rfl) (by kernel_rfl) (by kernel_rfl) (fun _ _ _ h => h) (Or.inl ⟨by rfl, ?_⟩) hHeld ?_; rotate_left; focus (intro w hSw; (try dsimp only at hSw); go_simp; (try with_reducible rfl)))
  try simp only [Act.put, List.getElem_toArray, List.getElem_cons_succ, List.getElem_cons_zero, List.setIfInBounds_toArray, List.set_cons_zero, List.set_cons_succ]
  refine wpAnyH_done (by kernel_rfl) ?_ _
  refine NoPanic.normal ?_
  have hbx := hHeld.1
  have y2 := HXS.out.2.2.1.keep hbx
  have y3 := HXS.out.2.2.2.keep hbx
  have u0 : w'.cell? ⟨g, 0, none⟩ = some (.slice A n c) := hHeld.2.1
  have HY := Lib.hid (And.intro hbx (And.intro y2 y3))
  have v0 := y2.cell 0
  have g0 := y2.frozen 0
  have e0 := y3.cell 0
  have e1 := y3.cell 1
  have e2 := y3.cell 2
  have e3 := y3.cell 3
  have e4 := y3.cell 4
  have e5 := y3.cell 5
  have ef := fun i => y3.frozen i
  clear y2 y3 hHeld hbx
  cases hi : isAt L key
  · obtain ⟨X, hX⟩ : ∃ X, ((((((w'.setCell ⟨g + 1 + 1, 0, none⟩ (.slice A4 (putL L ⟨key, pa, pb⟩).length c4)).setCell ⟨g + 1 + 1 + 1, 0, none⟩ (.int .i64 0)).setCell ⟨g + 1 + 1 + 1, 1, none⟩ (.int .u64 0)).setCell ⟨g + 1 + 1 + 1, 2, none⟩ (.int .u64 0)).setCell ⟨g + 1 + 1 + 1, 3, none⟩ (.int .u64 0)).setCell ⟨g + 1 + 1 + 1, 4, none⟩ (.int .i64 0)).setCell ⟨g + 1 + 1 + 1, 5, none⟩ (.int .i64 0) = X := ⟨_, rfl⟩
    obtain ⟨r2, r3, ro⟩ := res_two HY.out.2.1 HY.out.2.2 _ _ _ _ _ _ _ X hX
    have HR := Lib.hid (And.intro r2 (And.intro r3 ro))
    clear r2 r3 ro
    have HXX := Lib.hid hX
    clear hX
    go_wp2_with fail
    rw [HXX.out]
    obtain ⟨r2, r3, ro⟩ := HR.out
    have s0 := r2.cell 0
    have t0 := r3.cell 0
    have t1 := r3.cell 1
    have t2 := r3.cell 2
    have t3 := r3.cell 3
    have t4 := r3.cell 4
    have t5 := r3.cell 5
    refine bodyPost_ret (v := .tuple #[.agg #[.slice A4 (putL L ⟨key, pa, pb⟩).length c4], .agg #[.int .i64 0, .int .u64 0, .int .u64 0, .int .u64 0, .int .i64 0, .int .i64 0]]) (by simp [results, Tryz.results74, go_sem, s0, t0, t1, t2, t3, t4, t5]) rfl ⟨_, by rw [hi]; rfl, told_of_own (toldO_only HT.out ro (fun i hi => by omega)), ?_⟩
    rw [HG.out]
    exact Below.only (HXS.out.1.trans (HY.out.1.mono (by have := HGW.out; omega))) ro (by have := HGW.out; have := HY.out.1.size; omega) (fun i hi => hi.1)
  · obtain ⟨X, hX⟩ : ∃ X, ((((((w'.setCell ⟨g + 1 + 1, 0, none⟩ (.slice A n c)).setCell ⟨g + 1 + 1 + 1, 0, none⟩ (.int .i64 7)).setCell ⟨g + 1 + 1 + 1, 1, none⟩ (.int .u64 0)).setCell ⟨g + 1 + 1 + 1, 2, none⟩ (.int .u64 0)).setCell ⟨g + 1 + 1 + 1, 3, none⟩ (.int .u64 0)).setCell ⟨g + 1 + 1 + 1, 4, none⟩ (.int .i64 0)).setCell ⟨g + 1 + 1 + 1, 5, none⟩ (.int .i64 0) = X := ⟨_, rfl⟩
    obtain ⟨r2, r3, ro⟩ := res_two HY.out.2.1 HY.out.2.2 _ _ _ _ _ _ _ X hX
    have HR := Lib.hid (And.intro r2 (And.intro r3 ro))
    clear r2 r3 ro
    have HXX := Lib.hid hX
    clear hX
    go_wp2_with fail
    rw [HXX.out]
    obtain ⟨r2, r3, ro⟩ := HR.out
    have s0 := r2.cell 0
    have t0 := r3.cell 0
    have t1 := r3.cell 1
    have t2 := r3.cell 2
    have t3 := r3.cell 3
    have t4 := r3.cell 4
    have t5 := r3.cell 5
    have hbb := Below.only (HXS.out.1.trans (HY.out.1.mono (by have := HGW.out; omega))) ro (by have := HGW.out; have := HY.out.1.size; omega) (fun i hi => hi.1)
    refine bodyPost_ret (v := .tuple #[.agg #[.slice A n c], .agg #[.int .i64 7, .int .u64 0, .int .u64 0, .int .u64 0, .int .i64 0, .int .i64 0]]) (by simp [results, Tryz.results74, go_sem, s0, t0, t1, t2, t3, t4, t5]) rfl ⟨_, by rw [hi]; rfl, ?_, by rw [HG.out]; exact hbb⟩
    rw [HP.out hi]
    exact ⟨A, c, by rw [HN.out], HA.out.keep (by rw [HG.out]; exact hbb)⟩
end Go.Proofs.YtiafjbhekfpkbaaGreatDoor
namespace Go.Proofs.YtiafjbhekfpkbaaGreatDoor
set_option linter.unusedSimpArgs false
set_option linter.unusedVariables false
open Go.ChangeShapes Go.WideShapes Go.ChangeAt Go.RowKit
set_option linter.unusedSimpArgs false
set_option linter.unusedVariables false

/-- Two results in the blocks g + 2 and g + 3, and nothing else touched since V. -/
structure Slot2 (g : Nat) (t2 t3 : TypeId) (V w' : World) : Prop where
  only : Only (fun i => g ≤ i ∧ i < g + 4) V w'
  c2 : ∃ q0, Cells w' (g + 1 + 1) t2 [q0]
  c3 : ∃ q1 q2 q3 q4 q5 q6, Cells w' (g + 1 + 1 + 1) t3 [q1, q2, q3, q4, q5, q6]
namespace Slot2
variable {g : Nat} {t2 t3 : TypeId} {V w' w'' : World}
theorem step (h : Slot2 g t2 t3 V w') (hb : Below w'.heap.size w' w'') : Slot2 g t2 t3 V w'' := by
  obtain ⟨h, ⟨q0, h2⟩, ⟨q1, q2, q3, q4, q5, q6, h3⟩⟩ := h
  exact ⟨h.then hb, ⟨q0, h2.keep hb⟩, ⟨q1, q2, q3, q4, q5, q6, h3.keep hb⟩⟩
theorem set2 (h : Slot2 g t2 t3 V w') (u : Value) : Slot2 g t2 t3 V (w'.setCell ⟨g + 1 + 1, 0, none⟩ u) := by
  obtain ⟨h, ⟨q0, h2⟩, ⟨q1, q2, q3, q4, q5, q6, h3⟩⟩ := h
  have hne : g + 1 + 1 + 1 ≠ g + 1 + 1 := by omega
  exact ⟨h.setCell (p := ⟨g + 1 + 1, 0, none⟩) (show g ≤ g + 1 + 1 ∧ g + 1 + 1 < g + 4 by omega) u, ⟨u, h2.set_ 0 u⟩, ⟨q1, q2, q3, q4, q5, q6, h3.far (p := ⟨g + 1 + 1, 0, none⟩) hne u⟩⟩
theorem set3 (h : Slot2 g t2 t3 V w') (u1 u2 u3 u4 u5 u6 : Value) : Slot2 g t2 t3 V ((((((w'.setCell ⟨g + 1 + 1 + 1, 0, none⟩ u1).setCell ⟨g + 1 + 1 + 1, 1, none⟩ u2).setCell ⟨g + 1 + 1 + 1, 2, none⟩ u3).setCell ⟨g + 1 + 1 + 1, 3, none⟩ u4).setCell ⟨g + 1 + 1 + 1, 4, none⟩ u5).setCell ⟨g + 1 + 1 + 1, 5, none⟩ u6) := by
  obtain ⟨h, ⟨q0, h2⟩, ⟨q1, q2, q3, q4, q5, q6, h3⟩⟩ := h
  have hne : g + 1 + 1 ≠ g + 1 + 1 + 1 := by omega
  have k3 : g ≤ g + 1 + 1 + 1 ∧ g + 1 + 1 + 1 < g + 4 := by omega
  exact ⟨(((((h.setCell (p := ⟨g + 1 + 1 + 1, 0, none⟩) k3 u1).setCell (p := ⟨g + 1 + 1 + 1, 1, none⟩) k3 u2).setCell (p := ⟨g + 1 + 1 + 1, 2, none⟩) k3 u3).setCell (p := ⟨g + 1 + 1 + 1, 3, none⟩) k3 u4).setCell (p := ⟨g + 1 + 1 + 1, 4, none⟩) k3 u5).setCell (p := ⟨g + 1 + 1 + 1, 5, none⟩) k3 u6,
    ⟨q0, (((((h2.far (p := ⟨g + 1 + 1 + 1, 0, none⟩) hne u1).far (p := ⟨g + 1 + 1 + 1, 1, none⟩) hne u2).far (p := ⟨g + 1 + 1 + 1, 2, none⟩) hne u3).far (p := ⟨g + 1 + 1 + 1, 3, none⟩) hne u4).far (p := ⟨g + 1 + 1 + 1, 4, none⟩) hne u5).far (p := ⟨g + 1 + 1 + 1, 5, none⟩) hne u6⟩,
    ⟨u1, u2, u3, u4, u5, u6, (((((h3.set_ 0 u1).set_ 1 u2).set_ 2 u3).set_ 3 u4).set_ 4 u5).set_ 5 u6⟩⟩
theorem cell (h : Slot2 g t2 t3 V w') {a : Addr} (ha : a.block < V.heap.size) (hn : ¬ (g ≤ a.block ∧ a.block < g + 4)) : w'.cell? a = V.cell? a := only_cell h.only ha hn
end Slot2

/-- What find and found make of it: the pair, or ErrNone. -/
theorem foundV (there : Bool) (a b : Nat) (h : there = false → a = 0 ∧ b = 0) : ∃ (fe : Int) (fa fb : Nat), (bif there then ansV 0 a b 0 0 0 else ansV 6 0 0 0 0 0) = .agg #[.int .i64 fe, .int .u64 (fa : Nat), .int .u64 (fb : Nat), .int .u64 0, .int .i64 0, .int .i64 0] := by
  cases there
  · exact ⟨6, 0, 0, rfl⟩
  · exact ⟨0, a, b, rfl⟩

set_option maxRecDepth 100000 in
set_option maxHeartbeats 2000000 in
theorem mSess_get (A : Option Addr) (c : Nat) (L : List Rw) (hL : L.length ≤ 100000) (l key : Int) (pa pb hd : Nat) (r : Int) (w : World) (hl : Lies w A L) :
    Calls Tryz.prog 74 #[.agg #[.slice A L.length c], .agg #[.int .i64 1, .int .i64 l, .int .i64 key, .int .u64 (pa : Nat), .int .u64 (pb : Nat), .int .u64 (hd : Nat), .int .i64 r]] w fun e w' => ∃ v, e = .returned (.tuple #[.agg #[v], bif isAt L key then ansV 0 (dropX L key).a (dropX L key).b 0 0 0 else ansV 6 0 0 0 0 0]) ∧ Told w' v L ∧ Below w.heap.size w w' := by
  have C2 := Lib.hid (fun W (hb : Below w.heap.size w W) => mFind_any A c L (by omega) key W (hl.keep hb))
  have HA := Lib.hid hl
  clear hl
  generalize hn : L.length = n at *
  have HN := Lib.hid hn; clear hn
  generalize (dropX L key).a = xa at *
  generalize (dropX L key).b = xb at *
  generalize hth : isAt L key = th at *
  clear hth
  have CF := Lib.hid (fun W => mFound_any xa xb th 6 W)
  obtain ⟨fe, fa, fb, hf⟩ : ∃ (fe : Int) (fa fb : Nat), (bif th then ansV 0 xa xb 0 0 0 else ansV 6 0 0 0 0 0) = .agg #[.int .i64 fe, .int .u64 (fa : Nat), .int .u64 (fb : Nat), .int .u64 0, .int .i64 0, .int .i64 0] := by
    cases th
    · exact ⟨6, 0, 0, rfl⟩
    · exact ⟨0, xa, xb, rfl⟩
  rw [hf] at CF
  have HFV := Lib.hid hf; clear hf
  go_enter Tryz.func74, Tryz.ntmps74
  go_upto_region 11 with fail
  generalize hW : World.alloc _ _ = W
  obtain ⟨hB, x0, x1, x2, x3, x4⟩ := five_cells _ _ _ _ _ _ _ _ _ _ _ W hW
  clear hW
  generalize hg : w.heap.size = g at *
  have HG := Lib.hid hg; clear hg
  have HGW : Hid (g + 5 ≤ W.heap.size) := Lib.hid (by have := x4.lt; omega)
  have y0 := x0.cell 0
  have y2 := x1.cell 2
  have HXS := Lib.hid (And.intro hB (And.intro x0 (And.intro x2 (And.intro x3 x4))))
  clear x0 x1 x2 x3 x4 hB
  go_upto_region 12 with (go_at_call 91; refine (C2.out _ HXS.out.1).mono ?_; rintro e w6 ⟨rfl, hb6⟩; have HB6 := Lib.hid hb6; clear hb6)
  generalize hW6 : w6.alloc _ = V
  obtain ⟨v0, v1, vs⟩ : V.cell? ⟨w6.heap.size, 0, none⟩ = some (.int .u64 (xa : Nat)) ∧ V.cell? ⟨w6.heap.size, 1, none⟩ = some (.int .u64 (xb : Nat)) ∧ Below w6.heap.size w6 V := by
    subst hW6
    exact ⟨(Cells.new _ _ _).cell 0, (Cells.new _ _ _).cell 1, (Below.refl _ w6).alloc (Nat.le_refl _) _⟩
  have hVS : w6.heap.size < V.heap.size := by subst hW6; simp
  have hpW : W.heap.size ≤ w6.heap.size := HB6.out.size
  clear hW6
  have HBV := Lib.hid (HB6.out.trans (vs.mono HB6.out.size))
  generalize hq : w6.heap.size = p at *
  clear hq
  have HK0 : Hid (g + 5 ≤ V.heap.size ∧ p < V.heap.size ∧ W.heap.size ≤ p) := Lib.hid ⟨by have := HGW.out; have := HBV.out.size; omega, hVS, hpW⟩
  have HKS : Hid (Slot2 g 51 36 V V) := Lib.hid ⟨Only.refl _ _, ⟨_, HXS.out.2.2.1.keep HBV.out⟩, ⟨_, _, _, _, _, _, HXS.out.2.2.2.1.keep HBV.out⟩⟩
  have u4 := (HXS.out.2.2.2.2.keep HBV.out).cell 0
  have HK : Hid (∀ w', Slot2 g 51 36 V w' → (Slot2 g 51 36 V w' ∧ w'.cell? ⟨g + 1 + 1 + 1 + 1, 0, none⟩ = some (.slice A n c) ∧ w'.cell? ⟨p, 0, none⟩ = some (.int .u64 (xa : Nat)) ∧ w'.cell? ⟨p, 1, none⟩ = some (.int .u64 (xb : Nat)))) := Lib.hid fun w' h => ⟨h, by rw [h.cell (show g + 1 + 1 + 1 + 1 < _ by have := HK0.out; omega) (show ¬ (g ≤ g + 1 + 1 + 1 + 1 ∧ g + 1 + 1 + 1 + 1 < g + 4) by omega)]; exact u4, by rw [h.cell (show p < _ from HK0.out.2.1) (show ¬ (g ≤ p ∧ p < g + 4) by have := HK0.out; have := HGW.out; omega)]; exact v0, by rw [h.cell (show p < _ from HK0.out.2.1) (show ¬ (g ≤ p ∧ p < g + 4) by have := HK0.out; have := HGW.out; omega)]; exact v1⟩
  clear v0 v1 vs u4 hVS hpW
  refine wp_region_noPanic ?_
  refine wp_region_held_drew (S := fun w' => (Slot2 g 51 36 V w' ∧ w'.cell? ⟨g + 1 + 1 + 1 + 1, 0, none⟩ = some (.slice A n c) ∧ w'.cell? ⟨p, 0, none⟩ = some (.int .u64 (xa : Nat)) ∧ w'.cell? ⟨p, 1, none⟩ = some (.int .u64 (xb : Nat)))) (by kernel_rfl) (HK.out _ (HKS.out.step (Below.refl _ _).drew)) (fun hHeld => ?_)
  try simp only [List.size_toArray, List.length_cons, List.length_nil, Nat.reduceAdd, Nat.reduceSub, Array.replicate_succ, Array.replicate_zero, List.push_toArray, List.append_toArray, List.nil_append, List.cons_append]   -- the listed as a literal: else each operation taken costs more than the last
  (refine wpAnyH_take (i := 0) (v := ?_) rfl (by kernel_rfl) (by kernel_rfl) (by kernel_rfl) (fun _ _ _ h => h) (Or.inl ⟨by rfl, ?_⟩) hHeld ?_; rotate_left; focus (intro w hSw; (try dsimp only at hSw); go_simp; (try with_reducible rfl)))
  try simp only [Act.put, List.getElem_toArray, List.getElem_cons_succ, List.getElem_cons_zero, List.setIfInBounds_toArray, List.set_cons_zero, List.set_cons_succ]
  (refine wpAnyH_take (i := 1) (v := ?_) rfl (by kernel_rfl) (by kernel_rfl) (by kernel_rfl) (fun _ _ _ h => h) (Or.inl ⟨by rfl, ?_⟩) hHeld ?_; rotate_left; focus (intro w hSw; (try dsimp only at hSw); go_simp; (try with_reducible rfl)))
  try simp only [Act.put, List.getElem_toArray, List.getElem_cons_succ, List.getElem_cons_zero, List.setIfInBounds_toArray, List.set_cons_zero, List.set_cons_succ]
  (refine wpAnyH_take (i := 2) (v := ?_) rfl (by kernel_rfl) (by kernel_rfl) (by kernel_rfl) (fun _ _ _ h => h) (Or.inl ⟨by rfl, ?_⟩) hHeld ?_; rotate_left; focus (intro w hSw; (try dsimp only at hSw); go_simp; (try with_reducible rfl)))
  try simp only [Act.put, List.getElem_toArray, List.getElem_cons_succ, List.getElem_cons_zero, List.setIfInBounds_toArray, List.set_cons_zero, List.set_cons_succ]
  (refine wpAnyH_ready (rs := [3]) (by kernel_rfl) (by simp) ?_; refine AllReadyH.cons rfl (fun K hK => ?_) AllReadyH.nil; go_simp; (go_at_call 92; refine (CF.out _).mono ?_; rintro e w' ⟨rfl, hb⟩; have HS8 := Lib.hid (hHeld.1.step hb)); (try go_wp2_with fail); refine hK.out _ _ ?_ (fun hHeld' => ?_); (focus (first | with_reducible exact HK.out _ (hHeld.1.step hb) | with_reducible exact HK.out _ (hHeld.1.set2 _) | with_reducible exact HK.out _ (hHeld.1.set3 _ _ _ _ _ _))); clear hK K; replace hHeld := hHeld'; clear hHeld')
  try simp only [Act.put, List.getElem_toArray, List.getElem_cons_succ, List.getElem_cons_zero, List.setIfInBounds_toArray, List.set_cons_zero, List.set_cons_succ]
  (refine wpAnyH_ready (rs := [4]) (by kernel_rfl) (by simp) ?_; refine AllReadyH.cons rfl (fun K hK => ?_) AllReadyH.nil; (obtain ⟨q0, X2⟩ := hHeld.1.c2; obtain ⟨q1, q2, q3, q4, q5, q6, X3⟩ := hHeld.1.c3; have s0 := X2.cell 0; have s1 := X2.frozen 0; have e0 := X3.cell 0; have e1 := X3.cell 1; have e2 := X3.cell 2; have e3 := X3.cell 3; have e4 := X3.cell 4; have e5 := X3.cell 5; have ef := fun i => X3.frozen i); go_simp; (try go_wp2_with fail); refine hK.out _ _ ?_ (fun hHeld' => ?_); (focus (first | with_reducible exact HK.out _ (hHeld.1.step hb) | with_reducible exact HK.out _ (hHeld.1.set2 _) | with_reducible exact HK.out _ (hHeld.1.set3 _ _ _ _ _ _))); clear hK K; replace hHeld := hHeld'; clear hHeld')
  try simp only [Act.put, List.getElem_toArray, List.getElem_cons_succ, List.getElem_cons_zero, List.setIfInBounds_toArray, List.set_cons_zero, List.set_cons_succ]
  (refine wpAnyH_ready (rs := [5]) (by kernel_rfl) (by simp) ?_; refine AllReadyH.cons rfl (fun K hK => ?_) AllReadyH.nil; (obtain ⟨q0, X2⟩ := hHeld.1.c2; obtain ⟨q1, q2, q3, q4, q5, q6, X3⟩ := hHeld.1.c3; have s0 := X2.cell 0; have s1 := X2.frozen 0; have e0 := X3.cell 0; have e1 := X3.cell 1; have e2 := X3.cell 2; have e3 := X3.cell 3; have e4 := X3.cell 4; have e5 := X3.cell 5; have ef := fun i => X3.frozen i); go_simp; (try go_wp2_with fail); refine hK.out _ _ ?_ (fun hHeld' => ?_); (focus (first | with_reducible exact HK.out _ (hHeld.1.step hb) | with_reducible exact HK.out _ (hHeld.1.set2 _) | with_reducible exact HK.out _ (hHeld.1.set3 _ _ _ _ _ _))); clear hK K; replace hHeld := hHeld'; clear hHeld')
  try simp only [Act.put, List.getElem_toArray, List.getElem_cons_succ, List.getElem_cons_zero, List.setIfInBounds_toArray, List.set_cons_zero, List.set_cons_succ]
  refine wpAnyH_done (by kernel_rfl) ?_ _
  refine NoPanic.normal ?_
  clear hHeld
  generalize hX : World.setCell _ _ _ = X
  obtain ⟨q0, h2⟩ := HS8.out.c2
  obtain ⟨q1, q2, q3, q4, q5, q6, h3⟩ := HS8.out.c3
  obtain ⟨r2, r3, ro⟩ := res_two h2 h3 _ _ _ _ _ _ _ X hX
  go_wp2_with fail
  have s0 := r2.cell 0
  have t0 := r3.cell 0
  have t1 := r3.cell 1
  have t2 := r3.cell 2
  have t3 := r3.cell 3
  have t4 := r3.cell 4
  have t5 := r3.cell 5
  have hbb : Below g w X := Below.only ((HXS.out.1.trans (HBV.out.mono (by have := HGW.out; omega)))) (HS8.out.only.trans ro) (by have := HK0.out; omega) (fun i hi => hi.1)
  refine bodyPost_ret (v := .tuple #[.agg #[.slice A n c], .agg #[.int .i64 fe, .int .u64 (fa : Nat), .int .u64 (fb : Nat), .int .u64 0, .int .i64 0, .int .i64 0]]) (by simp [results, Tryz.results74, go_sem, s0, t0, t1, t2, t3, t4, t5]) rfl ⟨_, by rw [HFV.out], ⟨A, c, by rw [HN.out], HA.out.keep (by rw [HG.out]; exact hbb)⟩, by rw [HG.out]; exact hbb⟩
end Go.Proofs.YtiafjbhekfpkbaaGreatDoor
