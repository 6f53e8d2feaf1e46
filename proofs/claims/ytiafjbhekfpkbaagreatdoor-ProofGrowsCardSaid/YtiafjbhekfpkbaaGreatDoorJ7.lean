/- Package proof: answered, hist.Ahead again, isOrder, inTurn. · Package line, at lines of int. · A row of the call's own, of structs: a field of an element set; a row kept where others turn. · slices.IndexFunc, ContainsFunc, DeleteFunc at ints, under whatever predicate that may make memory and reads what the row's block is no part of. · slices.DeleteFunc at ints, on a row of the call's own. · Package proof: inTurn. -/
import Derived.Test.YtiafjbhekfpkbaaGreatDoorJ6
import Derived.Deep.MidRow
import Derived.Deep.WholeRow
import Derived.Test.YtiafjbhekfpkbaaGreatDoorJ0
import Derived.Lib.SliceRun
import Derived.Deep.RegionLaw
import Derived.Deep.RegionLawGrows
import Derived.BigQuiet
import Derived.Deep.DeepCutAuto
import Derived.Deep.QuietTactic
import Derived.Defers
import Derived.Recover
import Derived.Test.YtiafjbhekfpkbaaGreatDoorJ4
import Derived.Shelf.Abstract
import Derived.Laws.IdiomCopy
namespace Go.Proofs.YtiafjbhekfpkbaaGreatDoor
set_option linter.unusedSimpArgs false
set_option linter.unusedVariables false
open Go.ChangeShapes Go.WideShapes Go.ChangeAt Go.RowKit Go.Maps
set_option linter.unusedSimpArgs false

theorem pAnswered_any (x : Opr) (w : World) : Calls Tryz.prog 27 #[.agg (opF x).toArray] w fun e w' => e = .returned (.bool (ansB x)) ∧ Below w.heap.size w w' := by
  go_enter Tryz.func27, Tryz.ntmps27
  go_upto_region 1 with fail
  generalize hW : World.alloc _ _ = W
  obtain ⟨hB, hx⟩ := one_cells _ _ _ W hW
  have p0 : W.cell? ⟨w.heap.size, 15, none⟩ = some (.int .i64 x.to) := hx.cell 15
  have HB := Lib.hid hB
  clear hW hx hB
  go_wp2_with fail
  go_ret
  exact ⟨by simp [ansB], HB.out⟩
/-- 'm[k]' where the operation has a guard that says yes. -/
theorem wpList_lookup_own_intG {H : Type} {P : Program} {w : World} {ops : Array Oper} {rest : List Oper} {o : Oper} {a : Act} {Q : Exit → Act → World → Prop}
    (hw : Region.wanted o (yielded ops a.tmps) = true) (m x : Operand) (t : TypeId) (hop : o.op = Op.lookup t m x false)
    (k e : TypeId) (q : IntKind) (K : Keyed P k) (ht : P.underlying t = some (.map k e)) (he : P.underlying e = some (.int q)) (hz : (zeroValue e).run P w = .ok (.int q 0) w) (b n : Nat) (D : DataW H)
    (hm : a.eval m = .map (some b)) (hown : w.ownsMap P k (plainElem P e) b n D) (key : Value) (kl : Lit) (hx : a.eval x = key) (hkey : keyOf P k key = some kl)
    (hK : ∀ c : Int, D.atKey kl (.lit (.int q 0)) = .lit (.int q c) → (Lit.int q c).wf = true → wpList P ops Q rest (a.put o.dst (.int q c)) w) :
    wpList P ops Q (o :: rest) a w := by
  obtain ⟨c, hrun, hat, hwc⟩ := hown.lookup_int K ht he hz hkey
  refine wpList_step fun K2 hK2 => ?_
  simp only [hw, if_true]
  unfold Oper.wp
  simp [execOp, hop, hm, hx, hrun, Result.andThen]
  exact hK2 _ _ (hK c hat hwc)
theorem all_no {f : Nat → Bool} {n k : Nat} (hk : k < n) (h : f k = false) : (List.range n).all f = false := by
  cases hx : (List.range n).all f with
  | false => rfl
  | true => rw [List.all_eq_true] at hx; rw [hx k (List.mem_range.2 hk)] at h; cases h
theorem all_yes {f : Nat → Bool} {n : Nat} (h : ∀ k, k < n → f k = true) : (List.range n).all f = true := by
  rw [List.all_eq_true]; exact fun k hk => h k (List.mem_range.1 hk)
set_option maxRecDepth 100000 in
set_option maxHeartbeats 2000000 in
theorem pIsOrder_any (A D : Option Addr) (c d m : Nat) (O : List Int) (hL : m ≤ 1000000) (hO : O.length ≤ 1000000) (hI : AllI O) (w : World) (hd : LiesC w D (flatI O)) :
    Calls Tryz.prog 13 #[.slice A m c, .slice D O.length d] w fun e w' => e = .returned (.bool (ordB m O)) ∧ Below w.heap.size w w' := by
  have CM := Lib.hid (fun W h => pMet_any D d O hO hI W h)
  have CP := Lib.hid (fun x W => pIsPlace_any A m c hL x W)
  have HI := Lib.hid hI
  have HD := Lib.hid hd
  have HL := Lib.hid (fun x => cntUp_le O x O.length)
  have HY : Hid ((∀ k, k < O.length → ordK m O k = true) → ordB m O = true) := Lib.hid fun h => all_yes h
  have HN : Hid (∀ k, k < O.length → ordK m O k = false → ordB m O = false) := Lib.hid fun k hk h => all_no hk h
  have HK : Hid (∀ k, ordK m O k = ((decide (0 ≤ O.getD k 0) && decide (O.getD k 0 < m)) && decide (cntUp O (O.getD k 0) O.length ≤ 1))) := Lib.hid fun _ => rfl
  clear hd hI
  generalize hol : O.length = l at *
  go_enter Tryz.func13, Tryz.ntmps13
  go_upto_region 2 with (go_at_call 23; refine (CM.out _ HD.out).mono ?_; rintro e w1 ⟨mb, rfl, hC, hb⟩)
  have HC := Lib.hid hC; clear hC
  have HB := Lib.hid hb; clear hb
  have HD1 := Lib.hid (HD.out.keep HB.out)
  go_wp2_with fail
  go_loopw [12] (fun s wr => ∃ k : Nat, s = .int .i64 k ∧ k ≤ l ∧ wr = w1 ∧ ∀ i, i < k → ordK m O i = true) (fun s _ => l - (intOf s).toNat)
  case atStart => exact ⟨0, rfl, Nat.zero_le _, rfl, fun i hi => by omega⟩
  case round =>
    obtain ⟨k, rfl, hk, rfl, he⟩ := hrel
    have HE := Lib.hid he; clear he
    by_cases hlt : k < l
    · obtain ⟨b, off, rfl, _, hx⟩ := HD1.out.atI (by omega)
      have p0 := hx k (by omega)
      have hxi := HI.out k (by rw [hol]; exact hlt)
      have hk1 := HK.out k
      have hcl := HL.out (O.getD k 0)
      obtain ⟨D0, hown, hD⟩ := HC.out
      have HQ : Hid (D0.atKey (.int .i64 (O.getD k 0)) (.lit (.int .i64 0)) = .lit (.int .i64 (cntUp O (O.getD k 0) l : Nat))) := Lib.hid (hD _)
      clear hx hD
      generalize hq : cntUp O (O.getD k 0) l = q at *
      generalize O.getD k 0 = y at *
      have CP1 := Lib.hid (fun W => CP.out y W)
      have hkey := keyR hxi
      generalize hpb : (decide (0 ≤ y) && decide (y < m)) = pb at *
      cases pb
      · have HF := Lib.hid (HN.out k hlt hk1)
        go_wp2_with (first
          | (go_at_call 24; refine (CP1.out _).mono ?_; rintro e w2 ⟨rfl, rfl⟩)
          | go_in)
        go_ret
        exact ⟨by rw [HF.out]; rfl, HB.out⟩
      · rw [Bool.true_and] at hk1
        by_cases h1 : q ≤ 1
        · rw [decide_eq_true h1] at hk1
          have d1 : decide ((1 : Int) < (q : Int)) = false := decide_eq_false (by omega)
          have HS : Hid (∀ i, i < k + 1 → ordK m O i = true) := Lib.hid fun i hi => by
            rcases Nat.lt_or_ge i k with h2 | h2
            · exact HE.out i h2
            · obtain rfl : i = k := by omega
              exact hk1
          clear h1 hk1
          go_wp2_with (first
            | (go_at_call 24; refine (CP1.out _).mono ?_; rintro e w2 ⟨rfl, rfl⟩)
            | (at_lookup; refine wpList_lookup_own_intG rfl _ _ 78 rfl 3 3 .i64 intLaw Tryz.underlying78 Tryz.underlying3 (zeroInt _) mb l _ rfl hown _ _ rfl hkey ?_; intro c hat hwc; obtain rfl : c = (q : Int) := (by have h1 := HQ.out; rw [hat] at h1; injection h1 with h1; injection h1); clear hat)
            | go_in)
          go_roundw
          case rel => exact ⟨k + 1, by go_num, by omega, trivial, HS.out⟩
          case measure => simp [intOf]; omega
        · rw [decide_eq_false h1] at hk1
          have d1 : decide ((1 : Int) < (q : Int)) = true := decide_eq_true (by omega)
          have HF := Lib.hid (HN.out k hlt hk1)
          clear h1 hk1
          go_wp2_with (first
            | (go_at_call 24; refine (CP1.out _).mono ?_; rintro e w2 ⟨rfl, rfl⟩)
            | (at_lookup; refine wpList_lookup_own_intG rfl _ _ 78 rfl 3 3 .i64 intLaw Tryz.underlying78 Tryz.underlying3 (zeroInt _) mb l _ rfl hown _ _ rfl hkey ?_; intro c hat hwc; obtain rfl : c = (q : Int) := (by have h1 := HQ.out; rw [hat] at h1; injection h1 with h1; injection h1); clear hat)
            | go_in)
          go_ret
          exact ⟨by rw [HF.out]; rfl, HB.out⟩
    · obtain rfl : k = l := by omega
      have HF := Lib.hid (HY.out HE.out)
      clear HE
      go_wp2_with fail
      go_ret
      exact ⟨by rw [HF.out]; rfl, HB.out⟩
end Go.Proofs.YtiafjbhekfpkbaaGreatDoor
namespace Go.Proofs.YtiafjbhekfpkbaaGreatDoor
set_option linter.unusedSimpArgs false
set_option linter.unusedVariables false
open Go.ChangeShapes Go.WideShapes Go.ChangeAt Go.RowKit

theorem lnIClone_nil (n c : Nat) (w : World) : Calls Tryz.prog 29 #[.slice none n c] w fun e w' => e = .returned (.slice none 0 0) ∧ w = w' := by
  have q : ∀ (w : World) (a : Option Addr) (n c n' c' : Nat), (binOp .eql 23 (.slice a n c) (.slice none n' c')).run Tryz.prog w = .ok (.bool a.isNone) w := fun w a n c n' c' => Lib.run_eql_slice_nil w _ _ a n c n' c' Tryz.underlying23
  go_enter Tryz.func29, Tryz.ntmps29
  go_wp2_with fail
  go_ret
  exact ⟨rfl, rfl⟩

theorem lnIClone_some (a : Addr) (c : Nat) (L : List Int) (hL : L.length ≤ 1000000) (w : World) (hA : LiesC w (some a) (flatI L)) :
    Calls Tryz.prog 29 #[.slice (some a) L.length c] w fun e w' => ∃ v, e = .returned v ∧ w'.ownsRow w.heap.size 3 1 v L.length (flatI L) ∧ Below w.heap.size w w' := by
  have q : ∀ (w : World) (a : Option Addr) (n c n' c' : Nat), (binOp .eql 23 (.slice a n c) (.slice none n' c')).run Tryz.prog w = .ok (.bool a.isNone) w := fun w a n c n' c' => Lib.run_eql_slice_nil w _ _ a n c n' c' Tryz.underlying23
  obtain ⟨i0, hi0, hz0, hz1, hz3⟩ := infoI
  have HX := Lib.hid (And.intro (World.ownsRow_lit (base := w.heap.size) (e := 3) (size := 1) w #[] 0 (Nat.le_refl _) (by decide) rfl) (LiesC.news (hA.alloc (.cells #[] 3))))
  generalize hn : L.length = n at *
  have HN := Lib.hid hn; clear hn hA
  go_enter Tryz.func29, Tryz.ntmps29
  go_wp2_with (at_builtin; refine wpList_append_own _ rfl _ _ 23 rfl w.heap.size 3 i0 (.int .i64 0) 1 8 Tryz.underlying23 hi0 hz0 hz1 hz3 rfl (by decide) (.slice (some ⟨w.heap.size, 0, none⟩) 0 0) 0 [] rfl HX.out.1 a n c (flatI L) rfl (by rw [flatI_length, HN.out]) HX.out.2 (flatI_one L) (by unfold maxLen; omega) (by omega) (by simp) ?_; intro v' w1 hown hgrow hnil)
  go_ret
  refine ⟨v', rfl, by simpa using hown, ?_⟩
  exact below_grown ((Below.refl _ w).alloc (Nat.le_refl _) _) hgrow (by intro k hk; simp [Value.ownBlock] at hk; omega) (by simp)

/-- A copy of any list, in memory of the call's own. -/
theorem lnIClone_any (A : Option Addr) (c : Nat) (L : List Int) (hL : L.length ≤ 1000000) (w : World) (hA : LiesC w A (flatI L)) :
    Calls Tryz.prog 29 #[.slice A L.length c] w fun e w' => ∃ v, e = .returned v ∧ LnIs w' v L.length (flatI L) ∧ Far w.heap.size v ∧ Below w.heap.size w w' := by
  cases A with
  | none =>
    have h0 : L = [] := by
      rcases hA with h | ⟨b, off, e, _⟩
      · have h0 : (flatI L).length = 0 := by rw [h]; rfl
        rw [flatI_length] at h0
        exact List.eq_nil_of_length_eq_zero (by omega)
      · cases e
    subst h0
    refine (lnIClone_nil _ _ w).mono ?_
    rintro e w' ⟨rfl, rfl⟩
    exact ⟨_, rfl, lnIs_of_own (World.ownsRow_nil w w.heap.size 3 1), (fun k hk => by cases hk), Below.refl _ _⟩
  | some a =>
    refine (lnIClone_some a c L hL w hA).mono ?_
    rintro e w' ⟨v, rfl, h1, h2⟩
    exact ⟨v, rfl, lnIs_of_own h1, far_of_own h1, h2⟩

theorem two_newsI (w : World) (u : Value) (t1 : TypeId) (cs : Array Value) (t2 : TypeId) :
    Below w.heap.size w ((w.alloc (.cells #[u] t1)).alloc (.cells cs t2)) ∧ Cells ((w.alloc (.cells #[u] t1)).alloc (.cells cs t2)) w.heap.size t1 [u] ∧ Cells ((w.alloc (.cells #[u] t1)).alloc (.cells cs t2)) (w.heap.size + 1) t2 cs.toList := by
  refine ⟨((Below.refl _ w).alloc (Nat.le_refl _) _).alloc (by simp) _, (Cells.new w #[u] t1).alloc _, ?_⟩
  have := Cells.new (w.alloc (.cells #[u] t1)) cs t2
  rw [World.size_alloc] at this
  exact this

/-- What an append without room leaves: all that was there, and a new row. -/
theorem lnI_grown {w W w' : World} {g cap n B : Nat} {cs xs : List Value} {t3 : TypeId} (hB : Below w.heap.size w W) (hown : w'.ownsRow W.heap.size 3 1 (.slice (some ⟨g, 0, none⟩) n cap) n cs) (hgrow : W.grownBy w' none) (hx : Cells W B t3 xs) :
    Below w.heap.size w w' ∧ Cells w' B t3 xs ∧ W.heap.size ≤ g ∧ B < W.heap.size :=
  ⟨below_grown0 hB hgrow hB.size, (hgrow.block B hx.lt (by simp)).trans hx, (hown.lt g rfl).1, hx.lt⟩
theorem lnI_done {w W w' : World} {g cap n B : Nat} {L : List Int} {xs : List Value} {t3 : TypeId} (h0 : w.heap.size ≤ B) (hB : Below w.heap.size w W) (hown : w'.ownsRow W.heap.size 3 1 (.slice (some ⟨g, 0, none⟩) n cap) n (flatI L)) (hgrow : W.grownBy w' none) (hx : Cells W B t3 xs) :
    LnIs (w'.setCell ⟨B, 0, none⟩ (.slice (some ⟨g, 0, none⟩) n cap)) (.slice (some ⟨g, 0, none⟩) n cap) n (flatI L) ∧ Far w.heap.size (.slice (some ⟨g, 0, none⟩) n cap) ∧ Below w.heap.size w (w'.setCell ⟨B, 0, none⟩ (.slice (some ⟨g, 0, none⟩) n cap)) := by
  obtain ⟨h1, h2, h3, h4⟩ := lnI_grown hB hown hgrow hx
  refine ⟨(lnIs_of_own hown).only ((Only.refl (fun i => i = B) w').setCell (p := ⟨B, 0, none⟩) rfl _) (fun k hk e => by have := (hown.lt k hk).1; omega), (far_of_own hown).mono hB.size, h1.setCell (by exact h0) _⟩

end Go.Proofs.YtiafjbhekfpkbaaGreatDoor
namespace Go.Proofs.YtiafjbhekfpkbaaGreatDoor
set_option linter.unusedSimpArgs false
set_option linter.unusedVariables false
open Go.ChangeShapes Go.WideShapes Go.ChangeAt Go.RowKit

theorem own_onlyC {F : Nat → Prop} {w w' : World} {base size n : Nat} {v : Value} {e : TypeId} {cs : List Value} (h : w.ownsRow base e size v n cs) (ho : Only F w w') (hF : ∀ i, base ≤ i → F i → False) : w'.ownsRow base e size v n cs := by
  refine ⟨h.1, ?_⟩
  rcases h.2 with h | ⟨g, cap, cur, h1, h2, h3, h4⟩
  · exact .inl h
  · exact .inr ⟨g, cap, cur, h1, h2, (ho.2 g (Array.getElem?_eq_some_iff.1 h3).1 (fun hf => hF g h2 hf)).trans h3, h4⟩
/-- A cell of the row set. -/
theorem own_setAt {w : World} {base size n g cap : Nat} {e : TypeId} {cs : List Value} (h : w.ownsRow base e size (.slice (some ⟨g, 0, none⟩) n cap) n cs) (j : Nat) (u : Value) :
    (w.setCell ⟨g, j, none⟩ u).ownsRow base e size (.slice (some ⟨g, 0, none⟩) n cap) n (cs.set j u) := by
  refine ⟨by rw [List.length_set]; exact h.1, ?_⟩
  rcases h.2 with ⟨h, _⟩ | ⟨g', cap', cur, h1, h2, h3, h4, h5, h6, h7⟩
  · cases h
  · cases h1
    refine .inr ⟨g, cap, cur.setIfInBounds j u, rfl, h2, by simp [World.setCell, Array.getElem?_modify, h3], h4, h5, by simpa using h6, ?_⟩
    rw [Array.toList_setIfInBounds, ← h7]
    have hc := Nat.mul_le_mul_right size h4
    apply List.ext_getElem?
    intro i
    simp only [List.getElem?_take, List.getElem?_set, List.length_take]
    split <;> split <;> simp_all <;> omega
theorem own_cellAt {w : World} {base size n g cap : Nat} {e : TypeId} {cs : List Value} (h : w.ownsRow base e size (.slice (some ⟨g, 0, none⟩) n cap) n cs) {j : Nat} {u : Value} (hj : cs[j]? = some u) : w.cell? ⟨g, j, none⟩ = some u := by
  rcases h.2 with ⟨h, _⟩ | ⟨g', cap', cur, h1, h2, h3, h4, h5, h6, h7⟩
  · cases h
  · cases h1
    rw [cell_of_row w g j cur e (0, 0) h3]
    rw [← h7, List.getElem?_take] at hj
    split at hj
    · simpa using hj
    · cases hj
theorem own_frozenAt {w : World} {base size n g cap : Nat} {e : TypeId} {cs : List Value} (h : w.ownsRow base e size (.slice (some ⟨g, 0, none⟩) n cap) n cs) (j : Nat) : w.frozen? ⟨g, j, none⟩ = false := by
  rcases h.2 with ⟨h, _⟩ | ⟨g', cap', cur, h1, h2, h3, h4, h5, h6, h7⟩
  · cases h
  · cases h1
    simp [World.frozen?, h3]
theorem own_blockAt {w : World} {base size n g cap : Nat} {e : TypeId} {cs : List Value} (h : w.ownsRow base e size (.slice (some ⟨g, 0, none⟩) n cap) n cs) : base ≤ g ∧ g < w.heap.size := by
  rcases h.2 with ⟨h, _⟩ | ⟨g', cap', cur, h1, h2, h3, _⟩
  · cases h
  · cases h1
    exact ⟨h2, (Array.getElem?_eq_some_iff.1 h3).1⟩
theorem set_behind {P X : List Value} {n : Nat} (h : P.length = n) (j : Nat) (u : Value) : (P ++ X).set (n + j) u = P ++ X.set j u := by
  subst h
  rw [List.set_append_right _ _ (by omega), Nat.add_sub_cancel_left]
section
variable {α : Type} [Inhabited α] {f : α → List Value} {k : Nat}
/-- A list's cells, an element's between. -/
theorem flatF_at (L : List α) {i : Nat} (hi : i < L.length) : flatF f L = flatF f (L.take i) ++ (f (L.getD i default) ++ flatF f (L.drop (i + 1))) := by
  conv => lhs; rw [← List.take_append_drop i L, List.drop_eq_getElem_cons hi, flatF_append, flatF]
  congr 2
  simp [List.getD, hi]
omit [Inhabited α] in
theorem flatF_set (L : List α) {i : Nat} (hi : i < L.length) (x : α) : flatF f (L.set i x) = flatF f (L.take i) ++ (f x ++ flatF f (L.drop (i + 1))) := by
  rw [List.set_eq_take_append_cons_drop, if_pos hi, flatF_append, flatF]
omit [Inhabited α] in
theorem take_len (hk : ∀ x, (f x).length = k) (L : List α) {i : Nat} (hi : i < L.length) : (flatF f (L.take i)).length = i * k := by
  rw [flatF_length hk, List.length_take, Nat.min_eq_left (by omega)]
end
end Go.Proofs.YtiafjbhekfpkbaaGreatDoor
namespace Go.Proofs.YtiafjbhekfpkbaaGreatDoor
set_option linter.unusedSimpArgs false
set_option linter.unusedVariables false
open Go.ChangeShapes Go.WideShapes Go.ChangeAt Go.RowKit Go.Maps
set_option linter.unusedSimpArgs false

theorem intLaw_ : True := trivial
/-- What is asked of a predicate: what it tells of each place below m, wherever J holds; it may make memory. -/
def PredJ (gf : Nat) (lb : Array Value) (p : Nat → Bool) (m : Nat) (J : World → Prop) : Prop :=
  ∀ (i : Nat) (W : World), i < m → J W → Calls Tryz.prog gf (#[.int .i64 (i : Int)] ++ lb) W fun e W' => e = .returned (.bool (p i)) ∧ Below W.heap.size W W'
/-- The first one that a predicate holds of. -/
def fstP (p : Nat → Bool) (R : List Nat) : Nat := R.findIdx p
theorem fstP_le (p : Nat → Bool) (R : List Nat) : fstP p R ≤ R.length := List.findIdx_le_length
set_option maxHeartbeats 2000000 in
theorem idxInt_any (gf : Nat) (lb : Array Value) (eg : ∀ args w, (callFunc gf args).run Tryz.prog w = .ok (.enter gf args) w) (p : Nat → Bool) (m : Nat) (J : World → Prop) (hJ : PredJ gf lb p m J) (hK : ∀ W W', Below W.heap.size W W' → J W → J W')
    (A : Option Addr) (c : Nat) (R : List Nat) (hR : R.length ≤ 1000000) (hm : ∀ i, i < R.length → R.getD i 0 < m) (w : World) (hw : J w) (ha : LiesC w A (flatI (natI R))) :
    Calls Tryz.prog 36 #[.slice A R.length c, .func (.func gf) #[] lb] w fun e w' => ∃ k : Nat, k ≤ R.length ∧ (∀ i, i < k → p (R.getD i 0) = false) ∧ (k < R.length → p (R.getD k 0) = true) ∧ e = .returned (.int .i64 (if k < R.length then (k : Int) else -1)) ∧ Below w.heap.size w w' := by
  have HA := Lib.hid ha
  have HJ := Lib.hid hJ
  have HK := Lib.hid hK
  have HW := Lib.hid hw
  have HN : Hid (∀ i, i < R.length → (natI R).getD i 0 = (R.getD i 0 : Nat)) := Lib.hid fun i hi => natI_at R hi
  have hnl := natI_len R
  clear ha hJ hK hw
  generalize hn : R.length = n at *
  go_enter Tryz.func36, Tryz.ntmps36
  go_wp2_with fail
  go_loopw [8] (fun i wr => ∃ k : Nat, i = .int .i64 k ∧ k ≤ n ∧ Below w.heap.size w wr ∧ ∀ i, i < k → p (R.getD i 0) = false) (fun i _ => n - (intOf i).toNat)
  case atStart => exact ⟨0, rfl, Nat.zero_le _, Below.refl _ _, fun i hi => by omega⟩
  case round =>
    obtain ⟨k, rfl, hk, hB, he⟩ := hrel
    have HE := Lib.hid he
    by_cases hlt : k < n
    · obtain ⟨b, off, rfl, _, hx⟩ := (HA.out.keep hB).atI (by rw [hnl]; omega)
      have p0 := hx k (by rw [hnl]; omega)
      rw [HN.out k hlt] at p0
      have hC := HJ.out (R.getD k 0) wr (hm k hlt) (HK.out w wr hB HW.out)
      have hE : p (R.getD k 0) = false → ∀ i, i < k + 1 → p (R.getD i 0) = false := fun h i hi => by
        rcases Nat.lt_or_ge i k with h2 | h2
        · exact HE.out i h2
        · obtain rfl : i = k := by omega
          exact h
      have HEE := Lib.hid hE
      have HB := Lib.hid hB
      have HC := Lib.hid hC
      clear hx hE he hB hC
      generalize hy : R.getD k 0 = y at *
      have HY := Lib.hid hy; clear hy
      cases hp : p y
      · rw [hp] at HC
        have HE2 := Lib.hid (HEE.out hp)
        clear HEE
        go_wp2_with fail
        refine HC.out.mono ?_
        rintro e w1 ⟨rfl, hb⟩
        go_wp2_with fail
        go_roundw
        case rel => exact ⟨k + 1, by go_num, by omega, HB.out.trans (hb.mono HB.out.size), HE2.out⟩
        case measure => simp [intOf]; omega
      · rw [hp] at HC
        have HP := Lib.hid hp
        clear hp HEE
        go_wp2_with fail
        refine HC.out.mono ?_
        rintro e w1 ⟨rfl, hb⟩
        go_wp2_with fail
        go_ret
        exact ⟨k, hk, HE.out, fun _ => by rw [HY.out]; exact HP.out, by rw [if_pos hlt]; rfl, HB.out.trans (hb.mono HB.out.size)⟩
    · obtain rfl : k = n := by omega
      clear he
      have HB := Lib.hid hB; clear hB
      go_wp2_with fail
      go_ret
      exact ⟨k, hk, HE.out, fun h => absurd h (by omega), by rw [if_neg (by omega)]; rfl, HB.out⟩
theorem any_at {p : Nat → Bool} {R : List Nat} {k : Nat} (hk : k ≤ R.length) (h1 : ∀ i, i < k → p (R.getD i 0) = false) (h2 : k < R.length → p (R.getD k 0) = true) : R.any p = decide (k < R.length) := by
  by_cases h : k < R.length
  · rw [decide_eq_true h, List.any_eq_true]
    exact ⟨_, getD_memN h, h2 h⟩
  · rw [decide_eq_false h, List.any_eq_false]
    intro x hx
    obtain ⟨i, hi, rfl⟩ := List.mem_iff_getElem.1 hx
    have h3 := h1 i (by omega)
    simp only [List.getD, List.getElem?_eq_getElem hi, Option.getD_some] at h3
    rw [h3]; exact Bool.false_ne_true
set_option maxHeartbeats 2000000 in
theorem hasInt_any (gf : Nat) (lb : Array Value) (eg : ∀ args w, (callFunc gf args).run Tryz.prog w = .ok (.enter gf args) w) (p : Nat → Bool) (m : Nat) (J : World → Prop) (hJ : PredJ gf lb p m J) (hK : ∀ W W', Below W.heap.size W W' → J W → J W')
    (A : Option Addr) (c : Nat) (R : List Nat) (hR : R.length ≤ 1000000) (hm : ∀ i, i < R.length → R.getD i 0 < m) (w : World) (hw : J w) (ha : LiesC w A (flatI (natI R))) :
    Calls Tryz.prog 25 #[.slice A R.length c, .func (.func gf) #[] lb] w fun e w' => e = .returned (.bool (R.any p)) ∧ Below w.heap.size w w' := by
  have HC := Lib.hid (idxInt_any gf lb eg p m J hJ hK A c R hR hm w hw ha)
  have HY : Hid (∀ k, k ≤ R.length → (∀ i, i < k → p (R.getD i 0) = false) → (k < R.length → p (R.getD k 0) = true) → R.any p = decide (k < R.length)) := Lib.hid fun k h1 h2 h3 => any_at h1 h2 h3
  clear hJ hK hw ha hm
  generalize hn : R.length = n at *
  go_enter Tryz.func25, Tryz.ntmps25
  go_upto_region 1 with fail
  go_wp2_with fail
  refine HC.out.mono ?_
  rintro e w1 ⟨k, hk, h1, h2, rfl, hb⟩
  have HZ := Lib.hid (HY.out k hk h1 h2)
  have HB := Lib.hid hb
  clear h1 h2 hb
  by_cases hlt : k < n
  · rw [if_pos hlt]
    have d1 : (!decide ((k : Int) < 0)) = true := by simp
    rw [decide_eq_true hlt] at HZ
    go_wp2_with fail
    go_ret
    exact ⟨by rw [HZ.out]; rfl, HB.out⟩
  · rw [if_neg hlt]
    rw [decide_eq_false hlt] at HZ
    go_wp2_with fail
    go_ret
    exact ⟨by rw [HZ.out]; rfl, HB.out⟩
end Go.Proofs.YtiafjbhekfpkbaaGreatDoor
namespace Go.Proofs.YtiafjbhekfpkbaaGreatDoor
set_option linter.unusedSimpArgs false
set_option linter.unusedVariables false
open Go.ChangeShapes Go.WideShapes Go.ChangeAt Go.RowKit Go.Maps
set_option linter.unusedSimpArgs false

/-- What lies in a block from its first cell on: numbers; n of its cells may be written. -/
structure IntsAt (w : World) (g n : Nat) (f : Nat → Nat) : Prop where
  lt : g < w.heap.size
  cell : ∀ t, t < n → w.cell? ⟨g, t, none⟩ = some (.int .i64 (f t : Nat))
  free : ∀ t, w.frozen? ⟨g, t, none⟩ = false
theorem IntsAt.keep {w w' : World} {g n : Nat} {f : Nat → Nat} (h : IntsAt w g n f) (hb : Below w.heap.size w w') : IntsAt w' g n f :=
  ⟨Nat.lt_of_lt_of_le h.lt hb.size, fun t ht => (hb.cell (by exact h.lt)).trans (h.cell t ht), fun t => by
    rw [World.frozen?, hb.block g h.lt]; exact h.free t⟩
theorem IntsAt.set_ {w : World} {g n : Nat} {f : Nat → Nat} (h : IntsAt w g n f) {i : Nat} (hi : i < n) (y : Nat) : IntsAt (w.setCell ⟨g, i, none⟩ (.int .i64 (y : Nat))) g n (fun t => if t = i then y else f t) := by
  have hc := h.cell i hi
  refine ⟨by simpa using h.lt, fun t ht => ?_, fun t => ?_⟩
  · by_cases e : t = i
    · subst e
      rw [if_pos rfl]
      exact World.cell?_setCell_same _ _ _ hc
    · rw [if_neg e, World.cell?_setCell_other _ _ _ _ (fun h2 => e (by cases h2; rfl))]
      exact h.cell t ht
  · simp [h.free t]
/-- Those of the first j that stay. -/
def stayP (p : Nat → Bool) (R : List Nat) (j : Nat) : List Nat := (R.take j).filter fun x => !p x
theorem stayP_succ (p : Nat → Bool) (R : List Nat) {j : Nat} (hj : j < R.length) : stayP p R (j + 1) = bif p (R.getD j 0) then stayP p R j else stayP p R j ++ [R.getD j 0] := by
  unfold stayP
  rw [List.take_add_one, List.getElem?_eq_getElem hj, List.filter_append]
  have : R.getD j 0 = R[j] := by simp [List.getD, hj]
  rw [this]
  cases h : p R[j] <;> simp [h]
theorem stayP_len (p : Nat → Bool) (R : List Nat) (j : Nat) : (stayP p R j).length ≤ j := by
  have h1 := List.length_filter_le (fun x => !p x) (R.take j)
  have h2 := List.length_take_le j R
  unfold stayP; omega
theorem stayP_none {p : Nat → Bool} {R : List Nat} : ∀ {j : Nat}, j ≤ R.length → (∀ i, i < j → p (R.getD i 0) = false) → stayP p R j = R.take j
  | 0, _, _ => by simp [stayP]
  | j + 1, h, hp => by
    rw [stayP_succ p R (by omega), hp j (by omega), stayP_none (by omega) (fun i hi => hp i (by omega)), List.take_add_one, List.getElem?_eq_getElem (by omega)]
    simp [List.getD, show j < R.length by omega]
theorem getD_appL {R S : List Nat} {t : Nat} (h : t < R.length) : (R ++ S).getD t 0 = R.getD t 0 := by simp [List.getD, List.getElem?_append_left h]
theorem getD_appR (R : List Nat) (x : Nat) : (R ++ [x]).getD R.length 0 = x := by simp [List.getD]
/-- The row within: those that stay so far, then whatever, then those that come. -/
structure DelR (w W : World) (g n i j : Nat) (p : Nat → Bool) (R : List Nat) (f : Nat → Nat) : Prop where
  row : IntsAt W g n f
  only : Only (fun k => k = g) w W
  len : (stayP p R j).length = i
  low : ∀ t, t < i → f t = (stayP p R j).getD t 0
  high : ∀ t, j ≤ t → t < n → f t = R.getD t 0
theorem DelR.keep {w W W' : World} {g n i j : Nat} {p : Nat → Bool} {R : List Nat} {f : Nat → Nat} (h : DelR w W g n i j p R f) (hb : Below W.heap.size W W') : DelR w W' g n i j p R f :=
  ⟨h.row.keep hb, h.only.then hb, h.len, h.low, h.high⟩
theorem DelR.skip {w W : World} {g n i j : Nat} {p : Nat → Bool} {R : List Nat} {f : Nat → Nat} (h : DelR w W g n i j p R f) (hj : j < R.length) (hp : p (R.getD j 0) = true) : DelR w W g n i (j + 1) p R f := by
  have hs := stayP_succ p R hj
  rw [hp] at hs
  refine ⟨h.row, h.only, by rw [hs]; exact h.len, fun t ht => by rw [hs]; exact h.low t ht, fun t ht hn => h.high t (by omega) hn⟩
theorem DelR.take {w W : World} {g n i j : Nat} {p : Nat → Bool} {R : List Nat} {f : Nat → Nat} (h : DelR w W g n i j p R f) (hj : j < R.length) (hn : n = R.length) (hij : i < j) (hp : p (R.getD j 0) = false) :
    DelR w (W.setCell ⟨g, i, none⟩ (.int .i64 (R.getD j 0 : Nat))) g n (i + 1) (j + 1) p R (fun t => if t = i then R.getD j 0 else f t) := by
  have hs := stayP_succ p R hj
  rw [hp] at hs
  have hs : stayP p R (j + 1) = stayP p R j ++ [R.getD j 0] := hs
  refine ⟨h.row.set_ (by omega) _, h.only.setCell rfl _, by rw [hs, List.length_append, h.len]; rfl, fun t ht => ?_, fun t ht hn => ?_⟩
  · show (if t = i then _ else f t) = _
    rw [hs]
    by_cases e : t = i
    · subst e
      rw [if_pos rfl, ← h.len, getD_appR]
    · rw [if_neg e, getD_appL (by rw [h.len]; omega)]
      exact h.low t (by omega)
  · show (if t = i then _ else f t) = _
    rw [if_neg (by omega)]
    exact h.high t (by omega) hn
set_option maxHeartbeats 4000000 in
theorem delInt_some (gf : Nat) (lb : Array Value) (eg : ∀ args w, (callFunc gf args).run Tryz.prog w = .ok (.enter gf args) w) (p : Nat → Bool) (m : Nat) (J : World → Prop) (hJ : PredJ gf lb p m J) (hK : ∀ W W', Below W.heap.size W W' → J W → J W')
    (g c : Nat) (hS : ∀ W W', Only (fun k => k = g) W W' → J W → J W')
    (R : List Nat) (hR : R.length ≤ 1000000) (hc : R.length ≤ c) (hm : ∀ i, i < R.length → R.getD i 0 < m) (w : World) (hw : J w) (ha : IntsAt w g R.length (fun t => R.getD t 0)) :
    Calls Tryz.prog 28 #[.slice (some ⟨g, 0, none⟩) R.length c, .func (.func gf) #[] lb] w fun e w' => e = .returned (.slice (some ⟨g, 0, none⟩) (stayP p R R.length).length c) ∧
      (∃ f, IntsAt w' g R.length f ∧ ∀ t, t < (stayP p R R.length).length → f t = (stayP p R R.length).getD t 0) ∧ Only (fun k => k = g) w w' := by
  have hl : LiesC w (some ⟨g, 0, none⟩) (flatI (natI R)) := .inr ⟨g, 0, rfl, ha.lt, fun j v hj => by
    have hjl : j < R.length := by
      have h := (List.getElem?_eq_some_iff.1 hj).1
      rw [flatI_length, natI_len] at h; omega
    rw [flatI_get _ _ (by rw [natI_len]; exact hjl), natI_at R hjl] at hj
    rw [Nat.zero_add, ha.cell j hjl]; exact hj⟩
  have CI := Lib.hid (idxInt_any gf lb eg p m J hJ hK (some ⟨g, 0, none⟩) c R hR hm w hw hl)
  have HA := Lib.hid ha
  have HJ := Lib.hid hJ
  have HS := Lib.hid hS
  have HW := Lib.hid hw
  have HM := Lib.hid hm
  have HN : Hid (∀ k, k ≤ R.length → (∀ i, i < k → p (R.getD i 0) = false) → stayP p R k = R.take k) := Lib.hid fun k h1 h2 => stayP_none h1 h2
  have HT : Hid (R.take R.length = R) := Lib.hid (List.take_length)
  have HU : Hid (∀ k, k < R.length → stayP p R (k + 1) = bif p (R.getD k 0) then stayP p R k else stayP p R k ++ [R.getD k 0]) := Lib.hid fun k h => stayP_succ p R h
  clear ha hJ hK hS hw hm hl
  generalize hn : R.length = n at *
  go_enter Tryz.func28, Tryz.ntmps28
  go_upto_region 1 with fail
  go_wp2_with fail
  refine CI.out.mono ?_
  rintro e w1 ⟨k, hk, h1, h2, rfl, hb⟩
  have HH := Lib.hid h1; have HG := Lib.hid h2; have HB := Lib.hid hb
  clear h1 h2 hb CI
  by_cases hlt : k < n
  · rw [if_pos hlt]
    have d1 : (((k : Int)) == -1) = false := by simp
    have hD0 : DelR w w1 g n k (k + 1) p R (fun t => R.getD t 0) := by
      have hs := HU.out k hlt
      rw [HG.out hlt, HN.out k hk HH.out] at hs
      have hs : stayP p R (k + 1) = R.take k := hs
      refine ⟨HA.out.keep HB.out, only_below HB.out _, by rw [hs, List.length_take]; omega, fun t ht => ?_, fun t _ _ => rfl⟩
      show R.getD t 0 = _
      rw [hs]; simp [List.getD, List.getElem?_take, ht]
    have HD0 := Lib.hid hD0
    clear hD0 HH HG
    go_wp2_with fail
    go_loopw [5, 6] (fun s5 s6 wr => ∃ (i j : Nat) (f : Nat → Nat), s5 = .int .i64 i ∧ s6 = .int .i64 j ∧ i < j ∧ j ≤ n ∧ DelR w wr g n i j p R f) (fun _ s6 _ => n - (intOf s6).toNat)
    case atStart => exact ⟨k, k + 1, _, rfl, by go_num, by omega, by omega, HD0.out⟩
    case round =>
      clear HD0 HB d1
      obtain ⟨i, j, f, rfl, rfl, hij, hjn, hD⟩ := hrel
      have HD := Lib.hid hD
      by_cases hlt2 : j < n
      · have cj := hD.row.cell j hlt2
        have ci := hD.row.cell i (by omega)
        have fi := hD.row.free i
        have hfj := hD.high j (Nat.le_refl _) hlt2
        have hC := HJ.out (R.getD j 0) wr (HM.out j hlt2) (HS.out w wr hD.only HW.out)
        have hK1 := fun (W : World) (hb : Below wr.heap.size wr W) (h : p (R.getD j 0) = true) => (HD.out.keep hb).skip (by omega) h
        have hT1 := fun (W : World) (hb : Below wr.heap.size wr W) (h : p (R.getD j 0) = false) => (HD.out.keep hb).take (by omega) hn.symm hij h
        have HK1 := Lib.hid hK1; have HT1 := Lib.hid hT1
        rw [hfj] at cj
        clear hD hfj hK1 hT1
        generalize R.getD j 0 = y at *
        generalize f i = old at *
        have HC := Lib.hid hC; clear hC
        have HQ := Lib.hid (And.intro ci fi); clear ci fi
        cases hp : p y
        · rw [hp] at HC
          have HT2 := Lib.hid (fun W hb => HT1.out W hb hp)
          clear HT1 HK1 hp
          go_wp2_with fail
          refine HC.out.mono ?_
          rintro e w2 ⟨rfl, hb⟩
          have HZ := Lib.hid (HT2.out w2 hb)
          have hR2 := HD.out.row.keep hb
          have ci := hR2.cell i (by omega)
          have fi := hR2.free i
          clear hR2 hb
          go_wp2_with fail
          go_roundw
          case rel => exact ⟨i + 1, j + 1, _, by go_num, by go_num, by omega, by omega, HZ.out⟩
          case measure => simp [intOf]; omega
        · rw [hp] at HC
          have HT2 := Lib.hid (fun W hb => HK1.out W hb hp)
          clear HT1 HK1 hp
          go_wp2_with fail
          refine HC.out.mono ?_
          rintro e w2 ⟨rfl, hb⟩
          have HZ := Lib.hid (HT2.out w2 hb)
          clear hb
          go_wp2_with fail
          go_roundw
          case rel => exact ⟨i, j + 1, f, rfl, by go_num, by omega, by omega, HZ.out⟩
          case measure => simp [intOf]; omega
      · obtain rfl : j = n := by omega
        have hcl : ∀ ty, (Builtin.clear_ #[23] ty #[.slice (some ⟨g, i, none⟩) (j - i) (c - i)]).run Tryz.prog wr = .ok (.tuple #[]) (wr.setCells g i (List.replicate (j - i) (.int .i64 0))) :=
          fun ty => Lib.run_clear_slice wr 23 3 ty (.int .i64 0) Tryz.underlying23 (fun W => by kernel_rfl) rfl rfl g i (j - i) (c - i) (by omega) (fun t ht => by rw [hD.row.cell (i + t) (by omega)]; rfl) (fun t _ => hD.row.free _)
        clear hD
        go_wp2_with fail
        go_ret
        have hD := HD.out
        refine ⟨by rw [hD.len]; rfl, ⟨fun t => if t < i then f t else 0, ⟨by rw [cells_size]; exact hD.row.lt, fun t ht => ?_, fun t => ?_⟩, fun t ht => ?_⟩, only_cells _ hD.only rfl⟩
        · show _ = some (Value.int .i64 ((if t < i then f t else 0 : Nat) : Int))
          by_cases e : t < i
          · rw [if_pos e, World.cell?_setCells_out g _ i wr ⟨g, t, none⟩ (fun _ _ => .inl e)]
            exact hD.row.cell t ht
          · rw [if_neg e]
            have h := World.cell?_setCells_in g (List.replicate (j - i) (Value.int .i64 0)) i wr (fun t2 ht2 => by rw [List.length_replicate] at ht2; rw [hD.row.cell (i + t2) (by omega)]; rfl) (t - i) (by rw [List.length_replicate]; omega)
            rw [show i + (t - i) = t by omega, List.getElem_replicate] at h
            exact h
        · rw [World.frozen?_setCells]; exact hD.row.free t
        · rw [hD.len] at ht
          show (if t < i then f t else 0) = _
          rw [if_pos ht]; exact hD.low t ht
  · obtain rfl : k = n := by omega
    rw [if_neg (by omega)]
    have hs := HN.out k hk HH.out
    rw [HT.out] at hs
    have HZ := Lib.hid hs; clear hs
    go_wp2_with fail
    go_ret
    rw [HZ.out]
    exact ⟨by rw [hn]; rfl, ⟨_, HA.out.keep HB.out, fun t _ => rfl⟩, only_below HB.out _⟩
end Go.Proofs.YtiafjbhekfpkbaaGreatDoor
namespace Go.Proofs.YtiafjbhekfpkbaaGreatDoor
set_option linter.unusedSimpArgs false
set_option linter.unusedVariables false
open Go.ChangeShapes Go.WideShapes Go.ChangeAt Go.RowKit Go.Maps
set_option linter.unusedSimpArgs false

theorem Cells.setRow_ {w : World} {B : Nat} {t : TypeId} {cs : List Value} (h : Cells w B t cs) (ds : List Value) : Cells (w.setRow B ds.toArray) B t ds := setRow_heap w B _ _ t _ h
theorem Cells.setRow_far {w : World} {B b : Nat} {t : TypeId} {cs : List Value} (h : Cells w B t cs) (hb : b ≠ B) (ds : Array Value) : Cells (w.setRow b ds) B t cs := (setRow_other w b B ds (fun e => hb e.symm)).trans h
theorem opF_all (x : Opr) : (opF x).toArray.all (·.oneCell') = true := by simp [opF, Value.oneCell']
set_option maxRecDepth 100000 in
set_option maxHeartbeats 4000000 in
theorem pInTurn_any (A D : Option Addr) (c d : Nat) (L : List Opr) (O : List Int) (hL : L.length ≤ 1000000) (hO : O.length ≤ 1000000) (hR : ∀ k, k < O.length → 0 ≤ O.getD k 0 ∧ O.getD k 0 < L.length) (w : World) (ha : LiesC w A (flatF opF L)) (hd : LiesC w D (flatI O)) :
    Calls Tryz.prog 16 #[.slice A L.length c, .slice D O.length d] w fun e w' => e = .returned (.bool (turnB L O)) ∧ Below w.heap.size w w' := by
  have HA := Lib.hid ha
  have HD := Lib.hid hd
  have HR := Lib.hid hR
  have HRG0 : Hid (∀ (W : World) (b off n : Nat), LiesC W (some ⟨b, off, none⟩) (flatF opF L) → n < L.length → W.rangeAt b (off + n * 16) (opF (oprN L n))) := Lib.hid fun W b off n h hn => LiesC.range6 h hn
  have HX : Hid (∀ k, latUp L O (k + 1) = bif decide ((latUp L O k).fr < (oprN L (O.getD k 0).toNat).fr) then oprN L (O.getD k 0).toNat else latUp L O k) := Lib.hid fun _ => rfl
  have HY : Hid ((∀ k, k < O.length → aheadB (oprN L (O.getD k 0).toNat) (latUp L O k) = false) → turnB L O = true) := Lib.hid fun h => all_yes fun k hk => by rw [h k hk]; rfl
  have HN : Hid (∀ k, k < O.length → aheadB (oprN L (O.getD k 0).toNat) (latUp L O k) = true → turnB L O = false) := Lib.hid fun k hk h => all_no hk (by rw [h]; rfl)
  clear ha hd hR
  generalize hml : L.length = m at *
  generalize hol : O.length = l at *
  go_enter Tryz.func16, Tryz.ntmps16
  go_upto_region 2 with fail
  generalize hW : World.alloc _ _ = W
  obtain ⟨hB, hx⟩ := one_cells _ _ _ W hW
  have hx0 : Cells W w.heap.size 38 (opF (latUp L O 0)) := hx
  clear hW hx
  generalize hg : w.heap.size = g at *
  have HG := Lib.hid hg; clear hg
  go_wp2_with fail
  go_loopw [11] (fun s wr => ∃ k : Nat, s = .int .i64 k ∧ k ≤ l ∧ Cells wr g 38 (opF (latUp L O k)) ∧ Below g w wr ∧ ∀ i, i < k → aheadB (oprN L (O.getD i 0).toNat) (latUp L O i) = false) (fun s _ => l - (intOf s).toNat)
  case atStart => exact ⟨0, rfl, Nat.zero_le _, hx0, hB, fun i hi => by omega⟩
  case round =>
    clear hx0 hB
    obtain ⟨k, rfl, hk, hx, hB, he⟩ := hrel
    have HE := Lib.hid he; clear he
    by_cases hlt : k < l
    · have hba : Below w.heap.size w wr := by rw [HG.out]; exact hB
      obtain ⟨b, off, rfl, _, hy⟩ := (HD.out.keep hba).atI (by omega)
      have p0 := hy k (by omega)
      have hr := HR.out k (by exact hlt)
      obtain ⟨n, hn⟩ : ∃ n : Nat, O.getD k 0 = n := ⟨(O.getD k 0).toNat, by omega⟩
      have hX := HX.out k
      have hN := HN.out k hlt
      have hE : aheadB (oprN L (O.getD k 0).toNat) (latUp L O k) = false → ∀ i, i < k + 1 → aheadB (oprN L (O.getD i 0).toNat) (latUp L O i) = false := fun h i hi => by
        rcases Nat.lt_or_ge i k with h2 | h2
        · exact HE.out i h2
        · obtain rfl : i = k := by omega
          exact h
      rw [hn] at p0 hr hX hN hE
      rw [Int.toNat_natCast] at hX hN hE
      have hnm : n < m := by omega
      obtain ⟨b2, off2, rfl, _, -⟩ := (HA.out.keep hba).atO (by omega)
      have HRG := Lib.hid (HRG0.out wr b2 off2 n (HA.out.keep hba) hnm)
      have HRG := Lib.hid ((HRG.out : wr.rangeAt b2 (off2 + n * 16) (opF (oprN L n))))
      have CA := Lib.hid (fun W => hAhead_any (oprN L n) (latUp L O k) W)
      have HXX := Lib.hid hX; have HNN := Lib.hid hN; have HEE := Lib.hid hE
      clear hX hN hE HN HE hba hy hr hn
      have HC := Lib.hid hx; have HB := Lib.hid hB
      clear hx hB
      go_upto_region 6 with (first | (refine wpList_load_mid rfl 38 _ rfl b2 (off2 + n * 16) rfl (opF (oprN L n)) _ HRG.out Tryz.underlying38 rfl (by kernel_rfl) ?_) | (refine wpList_store_row rfl 38 _ _ rfl wr.heap.size (opF (oprN L n)).toArray rfl rfl 38 (opF zeroO).toArray (heap_alloc_new wr _) (by kernel_rfl) rfl (opF_all _) ?_))
      rw [World.setRow_alloc_new]
      have hc1 : Cells (wr.alloc (.cells (opF (oprN L n)).toArray 38)) wr.heap.size 38 (opF (oprN L n)) := Cells.new wr _ _
      have hc2 : Cells (wr.alloc (.cells (opF (oprN L n)).toArray 38)) g 38 (opF (latUp L O k)) := HC.out.alloc _
      have hbl : Below g w (wr.alloc (.cells (opF (oprN L n)).toArray 38)) := HB.out.alloc (by have := HC.out.lt; omega) _
      have hlt2 : g < wr.heap.size := HC.out.lt
      generalize World.alloc _ _ = W2 at *
      generalize wr.heap.size = g2 at *
      generalize latUp L O k = y at *
      generalize oprN L n = x at *
      clear HRG HC HB
      have HB2 := Lib.hid hbl; clear hbl
      generalize hab : aheadB x y = ab at *
      cases ab
      · have HE2 := Lib.hid (HEE.out rfl)
        clear HEE HNN
        go_upto_region 8 with (first | (refine wpList_load_row rfl 38 _ rfl g2 rfl 38 (opF x).toArray (0, 0) _ hc1 Tryz.underlying38 rfl (by kernel_rfl) ?_) | (refine wpList_load_row rfl 38 _ rfl g rfl 38 (opF y).toArray (0, 0) _ hc2 Tryz.underlying38 rfl (by kernel_rfl) ?_) | (go_at_call 20; refine (CA.out _).mono ?_; rintro e w3 ⟨rfl, hb⟩))
        have hc3 := hc1.keep hb
        have hc4 := hc2.keep hb
        have hbl : Below g w w3 := HB2.out.trans (hb.mono (by have := hc2.lt; omega))
        clear hb hc1 hc2
        have p14 : w3.cell? ⟨g2, 14, none⟩ = some (.int .i64 x.fr) := hc3.cell 14
        have q14 : w3.cell? ⟨g, 14, none⟩ = some (.int .i64 y.fr) := hc4.cell 14
        have HH := Lib.hid (And.intro hc4 hbl)
        by_cases hf : y.fr < x.fr
        · rw [decide_eq_true hf] at HXX
          clear hbl
          go_wp2_with (first | (refine wpList_load_row rfl 38 _ rfl g2 rfl 38 (opF x).toArray (0, 0) _ hc3 Tryz.underlying38 rfl (by kernel_rfl) ?_) | (refine wpList_store_row rfl 38 _ _ rfl g (opF x).toArray rfl rfl 38 (opF y).toArray hc4 (by kernel_rfl) rfl (opF_all _) ?_))
          go_roundw
          case rel => exact ⟨k + 1, by go_num, by omega, by rw [HXX.out]; exact HH.out.1.setRow_ _, below_setRow_ HH.out.2 (Nat.le_refl _) _, HE2.out⟩
          case measure => simp [intOf]; omega
        · rw [decide_eq_false hf] at HXX
          clear hbl hc3 hc4
          go_wp2_with fail
          go_roundw
          case rel => exact ⟨k + 1, by go_num, by omega, by rw [HXX.out]; exact HH.out.1, HH.out.2, HE2.out⟩
          case measure => simp [intOf]; omega
      · have HF := Lib.hid (HNN.out rfl)
        clear HEE HNN
        go_wp2_with (first | (refine wpList_load_row rfl 38 _ rfl g2 rfl 38 (opF x).toArray (0, 0) _ hc1 Tryz.underlying38 rfl (by kernel_rfl) ?_) | (refine wpList_load_row rfl 38 _ rfl g rfl 38 (opF y).toArray (0, 0) _ hc2 Tryz.underlying38 rfl (by kernel_rfl) ?_) | (go_at_call 20; refine (CA.out _).mono ?_; rintro e w3 ⟨rfl, hb⟩))
        go_ret
        exact ⟨by rw [HF.out]; rfl, by rw [HG.out]; exact HB2.out.trans (hb.mono (by have := hc2.lt; omega))⟩
    · obtain rfl : k = l := by omega
      have HF := Lib.hid (HY.out HE.out)
      clear HE
      go_wp2_with fail
      go_ret
      exact ⟨by rw [HF.out]; rfl, by rw [HG.out]; exact hB⟩
end Go.Proofs.YtiafjbhekfpkbaaGreatDoor
