/- Package proof: what its closures tell; anyAnswered; answeredFirst. · slices.SortFunc at places, by when their opers were answered. · Package proof: anyAnswered, answeredFirst. · Package proof: answeredFirst. -/
import Derived.Test.YtiafjbhekfpkbaaGreatDoorJ7
import Derived.Test.YtiafjbhekfpkbaaGreatDoorJ8
namespace Go.Proofs.YtiafjbhekfpkbaaGreatDoor
set_option linter.unusedSimpArgs false
set_option linter.unusedVariables false
open Go.ChangeShapes Go.WideShapes Go.ChangeAt Go.RowKit Go.Maps Go.Sort
set_option linter.unusedSimpArgs false

/-- What a closure of these reads: the variable l, and what lies there. -/
structure AtL (W : World) (v : Nat) (A : Option Addr) (c : Nat) (L : List Opr) : Prop where
  lt : v < W.heap.size
  var : W.cell? ⟨v, 0, none⟩ = some (.slice A L.length c)
  ops : LiesC W A (flatF opF L)
theorem AtL.keep {W W' : World} {v : Nat} {A : Option Addr} {c : Nat} {L : List Opr} (h : AtL W v A c L) (hb : Below W.heap.size W W') : AtL W' v A c L :=
  ⟨Nat.lt_of_lt_of_le h.lt hb.size, (hb.cell (by exact h.lt)).trans h.var, h.ops.keep hb⟩
theorem AtL.only {W W' : World} {v : Nat} {A : Option Addr} {c : Nat} {L : List Opr} (h : AtL W v A c L) {F : Nat → Prop} (ho : Only F W W') (h1 : ¬ F v) (h2 : 0 < L.length → ∀ a, A = some a → ¬ F a.block) : AtL W' v A c L :=
  ⟨Nat.lt_of_lt_of_le h.lt ho.size, (only_cell ho (by exact h.lt) h1).trans h.var, by
    rcases Nat.eq_zero_or_pos L.length with h0 | h0
    · rw [List.eq_nil_of_length_eq_zero h0]; exact LiesC.nil_ _ _
    · exact h.ops.only ho (h2 h0)⟩
theorem lies_block {w : World} {A : Option Addr} {L : List Opr} (h : LiesC w A (flatF opF L)) (h0 : 0 < L.length) : ∀ p, A = some p → p.block < w.heap.size := fun p hp => by
  obtain ⟨b, off, rfl, hb, _⟩ := h.atO h0
  cases hp; exact hb
theorem anyC_any (v : Nat) (A : Option Addr) (c : Nat) (L : List Opr) (hL : L.length ≤ 1000000) (i : Nat) (hi : i < L.length) (W : World) (h : AtL W v A c L) :
    Calls Tryz.prog 26 #[.int .i64 (i : Int), .pointer (some ⟨v, 0, none⟩)] W fun e W' => e = .returned (.bool (ansB (oprN L i))) ∧ Below W.heap.size W W' := by
  obtain ⟨b2, off2, rfl, _, -⟩ := h.ops.atO (by omega)
  have HRG := Lib.hid (LiesC.range6 h.ops hi)
  have p0 := h.var
  have C := Lib.hid (fun W => pAnswered_any (oprN L i) W)
  clear h
  generalize L.length = m at *
  go_enter Tryz.func26, Tryz.ntmps26
  go_wp2_with (first | (refine wpList_load_mid rfl 38 _ rfl b2 (off2 + i * 16) rfl (opF (oprN L i)) _ HRG.out Tryz.underlying38 rfl (by kernel_rfl) ?_) | (go_at_call 27; refine (C.out _).mono ?_; rintro e w1 ⟨rfl, hb⟩))
  go_ret
  exact ⟨rfl, hb⟩
theorem delC_any (v : Nat) (A : Option Addr) (c : Nat) (L : List Opr) (hL : L.length ≤ 1000000) (i : Nat) (hi : i < L.length) (W : World) (h : AtL W v A c L) :
    Calls Tryz.prog 30 #[.int .i64 (i : Int), .pointer (some ⟨v, 0, none⟩)] W fun e W' => e = .returned (.bool (!ansB (oprN L i))) ∧ Below W.heap.size W W' := by
  obtain ⟨b2, off2, rfl, _, -⟩ := h.ops.atO (by omega)
  have HRG := Lib.hid (LiesC.range6 h.ops hi)
  have p0 := h.var
  have C := Lib.hid (fun W => pAnswered_any (oprN L i) W)
  clear h
  generalize L.length = m at *
  go_enter Tryz.func30, Tryz.ntmps30
  go_wp2_with (first | (refine wpList_load_mid rfl 38 _ rfl b2 (off2 + i * 16) rfl (opF (oprN L i)) _ HRG.out Tryz.underlying38 rfl (by kernel_rfl) ?_) | (go_at_call 27; refine (C.out _).mono ?_; rintro e w1 ⟨rfl, hb⟩))
  go_ret
  exact ⟨rfl, hb⟩
theorem cmpC_any (v : Nat) (A : Option Addr) (c : Nat) (L : List Opr) (hL : L.length ≤ 1000000) (i j : Nat) (hi : i < L.length) (hj : j < L.length) (W : World) (h : AtL W v A c L) :
    Calls Tryz.prog 32 #[.int .i64 (i : Int), .int .i64 (j : Int), .pointer (some ⟨v, 0, none⟩)] W fun e W' => e = .returned (.int .i64 (Lib.compareInt (oprN L i).to (oprN L j).to)) ∧ ∃ q, W' = W.drewN q := by
  obtain ⟨b2, off2, rfl, _, hx⟩ := h.ops.atO (by omega)
  have p0 := h.var
  have q1 : W.cell? ⟨b2, off2 + i * 16 + 15, none⟩ = some (.int .i64 (oprN L i).to) := hx i hi 15 (by omega)
  have q2 : W.cell? ⟨b2, off2 + j * 16 + 15, none⟩ = some (.int .i64 (oprN L j).to) := hx j hj 15 (by omega)
  have C := fun (W : World) => AnyG.cmp_Compare_int Tryz.laysCmp (oprN L i).to (oprN L j).to W
  clear h hx
  generalize L.length = m at *
  generalize (oprN L i).to = x at *
  generalize (oprN L j).to = y at *
  generalize Lib.compareInt x y = z at *
  go_enter Tryz.func32, Tryz.ntmps32
  go_wp2_with fail
  go_quiet ((go_at_call 33; exact Calls.quiet_of_same (C _)))
  go_wp2_with fail
  go_ret
  exact ⟨rfl, _, rfl⟩
end Go.Proofs.YtiafjbhekfpkbaaGreatDoor
namespace Go.Proofs.YtiafjbhekfpkbaaGreatDoor
set_option linter.unusedSimpArgs false
set_option linter.unusedVariables false
open Go.ChangeShapes Go.WideShapes Go.ChangeAt Go.RowKit Go.Maps Go.Sort
set_option linter.unusedSimpArgs false

theorem lift_fin {n : Nat} : ∀ R : List Nat, (∀ x, x ∈ R → x < n) → ∃ E : List (Fin n), E.map Fin.val = R
  | [], _ => ⟨[], rfl⟩
  | x :: r, h => by
    obtain ⟨E, hE⟩ := lift_fin r (fun y hy => h y (List.mem_cons_of_mem _ hy))
    exact ⟨⟨x, h x List.mem_cons_self⟩ :: E, by rw [List.map_cons, hE]⟩
def finV {n : Nat} (x : Fin n) : Value := .int .i64 ((x.val : Nat) : Int)
def cmpT (L : List Opr) {n : Nat} (x y : Fin n) : Int := Lib.compareInt (oprN L x.val).to (oprN L y.val).to
theorem ltT (L : List Opr) {n : Nat} (x y : Fin n) : Go.Proofs.ltOf (cmpT L) x y = decide ((oprN L x.val).to < (oprN L y.val).to) := by
  unfold Go.Proofs.ltOf cmpT Lib.compareInt
  by_cases h : (oprN L x.val).to < (oprN L y.val).to
  · rw [if_pos h, decide_eq_true h]; rfl
  · rw [if_neg h, decide_eq_false h]
    by_cases h2 : (oprN L x.val).to > (oprN L y.val).to
    · rw [if_pos h2]; rfl
    · rw [if_neg h2]; rfl
theorem swoT (L : List Opr) {n : Nat} : SWO (Go.Proofs.ltOf (cmpT L) : Fin n → Fin n → Bool) :=
  ⟨fun x => by rw [ltT]; exact decide_eq_false (by omega),
   fun x y z h1 h2 => by rw [ltT, decide_eq_true_eq] at *; omega,
   fun x y z h1 h2 => by rw [ltT, decide_eq_false_iff_not] at *; omega⟩
theorem only_sortWorld {α : Type} [Inhabited α] (enc : α → Value) (w : World) (g off n : Nat) (d : Array α) (os : Array Obj) : Only (fun k => k = g) w (sortWorld enc w g off n d os) := by
  have hlt : ∀ i, i < w.heap.size → ¬ i = g → (sortWorld enc w g off n d os).heap[i]? = w.heap[i]? := fun i hi hn => by
    unfold sortWorld
    rw [Go.Sort.heap_grow_old _ _ (by simpa [Go.Sort.putRow, Go.Sort.mapBlock, Go.Sort.ahead] using hi)]
    have : g ≠ i := fun e => hn e.symm
    simp [Go.Sort.putRow, Go.Sort.mapBlock, Go.Sort.ahead, Array.getElem?_modify, this]
  refine ⟨⟨rfl, rfl, rfl, ?_, fun i hi => absurd hi (Nat.not_lt_zero i)⟩, hlt⟩
  simp [sortWorld, Go.Sort.putRow, Go.Sort.mapBlock, Go.Sort.grow, Go.Sort.ahead]
/-- What is sorted. -/
structure SortR (L : List Opr) (S T : List Nat) : Prop where
  perm : T.Perm S
  sort : T.Pairwise fun a b => (oprN L a).to ≤ (oprN L b).to
theorem sortT_some (v : Nat) (A : Option Addr) (c : Nat) (L : List Opr) (hL : L.length ≤ 1000000) (g cap : Nat) (S : List Nat) (hSl : S.length ≤ 1000000) (hS : ∀ x, x ∈ S → x < L.length) (h0 : 0 < S.length) (hgv : v ≠ g) (hgA : ∀ a, A = some a → ¬ a.block = g) (w : World) (h : AtL w v A c L)
    (hlt : g < w.heap.size) (hc : ∀ t, t < S.length → w.cell? ⟨g, t, none⟩ = some (.int .i64 (S.getD t 0 : Nat)) ∧ w.frozen? ⟨g, t, none⟩ = false) :
    Calls Tryz.prog 31 #[.slice (some ⟨g, 0, none⟩) S.length cap, .func (.func 32) #[] #[.pointer (some ⟨v, 0, none⟩)]] w fun e w' => e = .returned (.tuple #[]) ∧
      (∃ T : List Nat, SortR L S T ∧ ∀ t, t < T.length → w'.cell? ⟨g, t, none⟩ = some (.int .i64 (T.getD t 0 : Nat))) ∧ (∀ t, w'.frozen? ⟨g, t, none⟩ = w.frozen? ⟨g, t, none⟩) ∧ Only (fun k => k = g) w w' := by
  have hm : 0 < L.length := by
    have := hS _ (getD_memN h0); omega
  obtain ⟨E, hE⟩ := lift_fin S hS
  have hEl : E.length = S.length := by rw [← hE, List.length_map]
  haveI : Inhabited (Fin L.length) := ⟨⟨0, hm⟩⟩
  have hEt : ∀ t, t < S.length → (E.toArray[t]!).val = S.getD t 0 := fun t ht => by
    have h1 : t < E.length := by omega
    rw [getElem!_pos E.toArray t (by simpa using h1)]
    simp only [← hE, List.getD, List.getElem?_map, List.getElem?_eq_getElem h1, Option.map_some, Option.getD_some, List.getElem_toArray]
  have hH : Holds (finV (n := L.length)) w g 0 E.toArray := fun t ht => by
    have h1 : t < S.length := by rw [← hEl]; simpa using ht
    obtain ⟨h2, h3⟩ := hc t h1
    rw [Nat.zero_add]
    refine ⟨?_, h3⟩
    show _ = some (Value.int .i64 (((E.toArray[t]!).val : Nat) : Int))
    rw [h2, hEt t h1]
  have hcmp : CmpLays1 Tryz.prog 32 #[.pointer (some ⟨v, 0, none⟩)] (finV (n := L.length)) (cmpT L) g 0 E.toArray.size w := fun k os dk _ x y => by
    refine (cmpC_any v A c L hL x.val y.val x.isLt y.isLt _ (h.only (only_sortWorld finV w g 0 k dk os) hgv (fun _ => hgA))).mono ?_
    rintro e w' ⟨rfl, q, rfl⟩
    exact ⟨rfl, q, #[], (Go.Sort.grow_empty _).symm⟩
  have hr := Any.slices_SortFunc Tryz.laysSort (finV (n := L.length)) (fun x => rfl) (cmpT L) (swoT L) 32 #[.pointer (some ⟨v, 0, none⟩)] g 0 cap E.toArray w (enters_of Tryz.func32 (by kernel_rfl) rfl) hcmp hH hlt (by simp; omega)
  rw [show E.toArray.size = S.length by simpa using hEl] at hr
  refine hr.mono ?_
  rintro e w' ⟨rfl, d', n, os, ⟨hp1, _, hp3⟩, hso, rfl⟩
  have hds : d'.size = S.length := by rw [hp1]; simpa using hEl
  refine ⟨rfl, ⟨d'.toList.map Fin.val, ⟨?_, ?_⟩, fun t ht => ?_⟩, fun t => ?_, only_sortWorld _ _ _ _ _ _ _⟩
  · have e1 : d'.extract 0 S.length = d' := by rw [← hds]; exact Array.extract_size
    have e2 : E.toArray.extract 0 S.length = E.toArray := by
      have hq : E.toArray.size = S.length := by simpa using hEl
      rw [← hq]; exact Array.extract_size
    rw [e1, e2] at hp3
    rw [← hE]
    simpa using hp3.map Fin.val
  · rw [List.pairwise_map, List.pairwise_iff_getElem]
    intro i j hi hj hij
    have hi' : i < d'.size := by simpa using hi
    have hj' : j < d'.size := by simpa using hj
    have := hso i j (Nat.zero_le _) hij (by omega)
    rw [getElem!_pos d' j hj', getElem!_pos d' i hi', ltT, decide_eq_false_iff_not] at this
    simp only [Array.getElem_toList]
    omega
  · have ht' : t < d'.size := by simpa using ht
    have := (holds_sortWorld (finV (n := L.length)) w g 0 n E.toArray d' os hlt hH hp1 t ht').1
    rw [Nat.zero_add] at this
    rw [this]
    show some (Value.int .i64 (((d'[t]!).val : Nat) : Int)) = _
    rw [getElem!_pos d' t ht']
    simp [List.getD, ht']
  · unfold sortWorld
    rw [Go.Sort.frozen?_grow _ _ _ (by simpa using hlt), Go.Sort.frozen?_putRow, Go.Sort.frozen?_ahead]
theorem sortT_none (a : Option Addr) (cap : Nat) (fv : Value) (w : World) : Calls Tryz.prog 31 #[.slice a 0 cap, fv] w fun e w' => e = .returned (.tuple #[]) ∧ w' = w :=
  AnyF.slices_SortFunc_none { Tryz.laysSort with } a cap fv w
end Go.Proofs.YtiafjbhekfpkbaaGreatDoor
namespace Go.Proofs.YtiafjbhekfpkbaaGreatDoor
set_option linter.unusedSimpArgs false
set_option linter.unusedVariables false
open Go.ChangeShapes Go.WideShapes Go.ChangeAt Go.RowKit Go.Maps
set_option linter.unusedSimpArgs false

theorem pAny_any (A D : Option Addr) (c d : Nat) (L : List Opr) (R : List Nat) (hL : L.length ≤ 1000000) (hR : R.length ≤ 1000000) (hm : ∀ i, i < R.length → R.getD i 0 < L.length) (w : World) (ha : LiesC w A (flatF opF L)) (hd : LiesC w D (flatI (natI R))) :
    Calls Tryz.prog 14 #[.slice A L.length c, .slice D R.length d] w fun e w' => e = .returned (.bool (anyB L R)) ∧ Below w.heap.size w w' := by
  have HC := Lib.hid (fun (v : Nat) (W : World) (h1 : AtL W v A c L) (h2 : LiesC W D (flatI (natI R))) => hasInt_any 26 #[.pointer (some ⟨v, 0, none⟩)] (enters_of Tryz.func26 (by kernel_rfl) rfl) (fun i => ansB (oprN L i)) L.length (fun W => AtL W v A c L)
    (fun i W hi h => anyC_any v A c L hL i hi W h) (fun W W' hb h => h.keep hb) D d R hR hm W h1 h2)
  have HY : Hid ((R.any fun i => ansB (oprN L i)) = anyB L R) := Lib.hid rfl
  have HA := Lib.hid ha; have HD := Lib.hid hd
  have HT : Hid (∀ W : World, w.alloc (.cells #[.slice A L.length c] 22) = W → AtL W w.heap.size A c L ∧ LiesC W D (flatI (natI R)) ∧ Below w.heap.size w W) := Lib.hid fun W hW => by
    subst hW
    exact ⟨⟨by simp, (Cells.new w #[.slice A L.length c] 22).cell 0, ha.alloc _⟩, hd.alloc _, (Below.refl _ _).alloc (Nat.le_refl _) _⟩
  clear ha hd hm
  generalize hml : L.length = m at *
  generalize hnl : R.length = n at *
  go_enter Tryz.func14, Tryz.ntmps14
  go_upto_region 1 with fail
  generalize hW : World.alloc _ _ = W
  obtain ⟨h1, h2, h3⟩ := HT.out W hW
  have HB := Lib.hid h3
  have HC1 := Lib.hid (HC.out _ W h1 h2)
  rw [HY.out] at HC1
  clear HC h1 h2 h3 hW HT
  generalize hbb : anyB L R = b at *
  have HBB := Lib.hid hbb; clear hbb
  go_wp2_with fail
  refine HC1.out.mono ?_
  rintro e w1 ⟨rfl, hb⟩
  go_wp2_with fail
  go_ret
  exact ⟨by rw [HBB.out]; rfl, HB.out.trans (hb.mono HB.out.size)⟩

/-- A slice of the call's own, behind B, of these numbers. -/
structure RowG (B : Nat) (w : World) (a : Option Addr) (c : Nat) (xs : List Nat) : Prop where
  le : xs.length ≤ c
  max : c ≤ maxLen
  nil : a = none → c = 0
  row : ∀ p, a = some p → ∃ g, p = ⟨g, 0, none⟩ ∧ B ≤ g ∧ g < w.heap.size ∧ (∀ t, t < xs.length → w.cell? ⟨g, t, none⟩ = some (.int .i64 (xs.getD t 0 : Nat))) ∧ ∀ t, w.frozen? ⟨g, t, none⟩ = false
theorem RowG.lies {B : Nat} {w : World} {a : Option Addr} {c : Nat} {xs : List Nat} (h : RowG B w a c xs) : LiesC w a (flatI (natI xs)) := by
  cases a with
  | none =>
    have h1 := h.nil rfl
    have h2 := h.le
    have : xs = [] := List.eq_nil_of_length_eq_zero (by omega)
    subst this
    exact .inl rfl
  | some p =>
    obtain ⟨g, rfl, _, h2, h3, _⟩ := h.row p rfl
    refine .inr ⟨g, 0, rfl, h2, fun j v hj => ?_⟩
    have hjl : j < xs.length := by
      have h := (List.getElem?_eq_some_iff.1 hj).1
      rw [flatI_length, natI_len] at h; omega
    rw [flatI_get _ _ (by rw [natI_len]; exact hjl), natI_at xs hjl] at hj
    rw [Nat.zero_add, h3 j hjl]; exact hj
theorem RowG.cut {B : Nat} {w : World} {a : Option Addr} {c : Nat} {xs : List Nat} (h : RowG B w a c xs) (k : Nat) : RowG B w a c (xs.take k) :=
  ⟨by have h1 := h.le; rw [List.length_take]; omega, h.max, h.nil, fun p hp => by
    obtain ⟨g, h1, h2, h3, h4, h5⟩ := h.row p hp
    refine ⟨g, h1, h2, h3, fun t ht => ?_, h5⟩
    rw [List.length_take] at ht
    have : (xs.take k).getD t 0 = xs.getD t 0 := by simp [List.getD, List.getElem?_take, show t < k by omega]
    rw [this]; exact h4 t (by omega)⟩
theorem RowG.lnIs {B : Nat} {w : World} {a : Option Addr} {c : Nat} {xs : List Nat} (h : RowG B w a c xs) : LnIs w (.slice a xs.length c) xs.length (flatI (natI xs)) :=
  ⟨a, c, rfl, h.le, h.max, h.nil, h.lies, fun p hp => by obtain ⟨g, rfl, _, h2, _⟩ := h.row p hp; exact h2⟩
/-- A copy of a list of places. -/
theorem cloneG (A : Option Addr) (c : Nat) (R : List Nat) (hR : R.length ≤ 1000000) (w : World) (hA : LiesC w A (flatI (natI R))) :
    Calls Tryz.prog 29 #[.slice A R.length c] w fun e w' => ∃ a c', e = .returned (.slice a R.length c') ∧ RowG w.heap.size w' a c' R ∧ Below w.heap.size w w' := by
  cases A with
  | none =>
    have h0 : R = [] := by
      rcases hA with h | ⟨b, off, e, _⟩
      · have h0 : (flatI (natI R)).length = 0 := by rw [h]; rfl
        rw [flatI_length, natI_len] at h0
        exact List.eq_nil_of_length_eq_zero (by omega)
      · cases e
    subst h0
    refine (lnIClone_nil _ _ w).mono ?_
    rintro e w' ⟨rfl, rfl⟩
    exact ⟨none, 0, rfl, ⟨Nat.le_refl _, Nat.zero_le _, fun _ => rfl, fun p hp => by cases hp⟩, Below.refl _ _⟩
  | some a =>
    have h := lnIClone_some a c (natI R) (by rw [natI_len]; exact hR) w hA
    rw [natI_len] at h
    refine h.mono ?_
    rintro e w' ⟨v, rfl, h1, h2⟩
    have h1' := h1
    rcases h1.2 with ⟨rfl, h0⟩ | ⟨g, cap, cur, rfl, h3, h4, h5, h6, h7, h8⟩
    · exact ⟨none, 0, by rw [h0], ⟨by omega, Nat.zero_le _, fun _ => rfl, fun p hp => by cases hp⟩, h2⟩
    · refine ⟨some ⟨g, 0, none⟩, cap, rfl, ⟨h5, h6, fun e => (by cases e), fun p hp => ?_⟩, h2⟩
      cases hp
      refine ⟨g, rfl, h3, (Array.getElem?_eq_some_iff.1 h4).1, fun t ht => ?_, fun t => own_frozenAt h1' t⟩
      refine own_cellAt h1' ?_
      rw [flatI_get _ _ (by rw [natI_len]; exact ht), natI_at R ht]
theorem delG (gf : Nat) (lb : Array Value) (eg : ∀ args w, (callFunc gf args).run Tryz.prog w = .ok (.enter gf args) w) (p : Nat → Bool) (m B : Nat) (J : World → Prop) (hJ : PredJ gf lb p m J) (hK : ∀ W W', Below W.heap.size W W' → J W → J W')
    (hS : ∀ W W', Only (fun k => B ≤ k) W W' → J W → J W') (a : Option Addr) (c : Nat)
    (R : List Nat) (hR : R.length ≤ 1000000) (hm : ∀ i, i < R.length → R.getD i 0 < m) (w : World) (hw : J w) (hB : B ≤ w.heap.size) (ha : RowG B w a c R) :
    Calls Tryz.prog 28 #[.slice a R.length c, .func (.func gf) #[] lb] w fun e w' => e = .returned (.slice a (stayP p R R.length).length c) ∧ RowG B w' a c (stayP p R R.length) ∧ Only (fun k => B ≤ k) w w' := by
  have hsl := stayP_len p R R.length
  have hcl := ha.le
  cases a with
  | some q =>
    obtain ⟨g, rfl, h1, h2, h3, h4⟩ := ha.row q rfl
    refine (delInt_some gf lb eg p m J hJ hK g c (fun W W' ho => hS W W' (ho.mono fun i _ e => by subst e; exact h1)) R hR ha.le hm w hw ⟨h2, h3, h4⟩).mono ?_
    rintro e w' ⟨rfl, ⟨f, hf, hff⟩, ho⟩
    refine ⟨rfl, ⟨by omega, ha.max, fun e => (by cases e), fun q hq => ?_⟩, ho.mono fun i _ e => by subst e; exact h1⟩
    cases hq
    exact ⟨g, rfl, h1, hf.lt, fun t ht => by rw [hf.cell t (by omega), hff t ht], hf.free⟩
  | none =>
    have hc0 := ha.nil rfl
    have : R = [] := List.eq_nil_of_length_eq_zero (by omega)
    subst this
    subst hc0
    have CI := Lib.hid (idxInt_any gf lb eg p m J hJ hK none 0 [] (by simp) hm w hw (.inl rfl))
    clear hJ hK hS hm ha
    go_enter Tryz.func28, Tryz.ntmps28
    go_upto_region 1 with fail
    go_wp2_with fail
    refine CI.out.mono ?_
    rintro e w1 ⟨k, hk, h1, h2, rfl, hb⟩
    have HB := Lib.hid hb
    rw [if_neg (by simp)]
    clear h1 h2 hb
    go_wp2_with fail
    go_ret
    exact ⟨rfl, ⟨Nat.le_refl _, Nat.zero_le _, fun _ => rfl, fun q hq => (by cases hq)⟩, only_below HB.out _⟩
theorem sortG (v : Nat) (A : Option Addr) (c : Nat) (L : List Opr) (hL : L.length ≤ 1000000) (B : Nat) (a : Option Addr) (cap : Nat) (S : List Nat) (hSl : S.length ≤ 1000000) (hS : ∀ x, x ∈ S → x < L.length) (hv : v < B) (hA : 0 < L.length → ∀ p, A = some p → p.block < B) (w : World) (h : AtL w v A c L) (hs : RowG B w a cap S) :
    Calls Tryz.prog 31 #[.slice a S.length cap, .func (.func 32) #[] #[.pointer (some ⟨v, 0, none⟩)]] w fun e w' => e = .returned (.tuple #[]) ∧
      (∃ T : List Nat, SortR L S T ∧ RowG B w' a cap T) ∧ Only (fun k => B ≤ k) w w' := by
  rcases Nat.eq_zero_or_pos S.length with h0 | h0
  · have : S = [] := List.eq_nil_of_length_eq_zero h0
    subst this
    refine (sortT_none a cap _ w).mono ?_
    rintro e w' ⟨rfl, rfl⟩
    exact ⟨rfl, ⟨[], ⟨List.Perm.refl _, List.Pairwise.nil⟩, hs⟩, Only.refl _ _⟩
  · cases a with
    | none => have h1 := hs.nil rfl; have h2 := hs.le; omega
    | some q =>
      obtain ⟨g, rfl, h1, h2, h3, h4⟩ := hs.row q rfl
      refine (sortT_some v A c L hL g cap S hSl hS h0 (by omega) (fun p hp e => by have := hA (by have := hS _ (getD_memN h0); omega) p hp; omega) w h h2 (fun t ht => ⟨h3 t ht, h4 t⟩)).mono ?_
      rintro e w' ⟨rfl, ⟨T, hT, hc⟩, hfz, ho⟩
      have hTl : T.length = S.length := hT.perm.length_eq
      refine ⟨rfl, ⟨T, hT, ⟨by rw [hTl]; exact hs.le, hs.max, fun e => (by cases e), fun q hq => ?_⟩⟩, ho.mono fun i _ e => by subst e; exact h1⟩
      cases hq
      exact ⟨g, rfl, h1, Nat.lt_of_lt_of_le h2 ho.size, hc, fun t => by rw [hfz]; exact h4 t⟩
/-- The first two of what is sorted. -/
theorem first_is {L : List Opr} {R T : List Nat} (hn : R.Nodup) (h : SortR L (R.filter fun i => ansB (oprN L i)) T) : First2 L R (T.take 2) := by
  have hmem : ∀ x, x ∈ T ↔ x ∈ R ∧ 0 ≤ (oprN L x).to := fun x => by
    rw [h.perm.mem_iff, List.mem_filter]; unfold ansB; rw [decide_eq_true_eq]
  have hT : T.Nodup := h.perm.nodup_iff.2 (hn.filter _)
  refine ⟨fun o ho => (hmem o).1 (List.mem_of_mem_take ho), fun j hj hj0 i hji => ?_⟩
  have hjT := (hmem j).2 ⟨hj, hj0⟩
  match T, hT, h.sort, hjT with
  | [a], _, _, hjT =>
    have : j = a := by simpa using hjT
    subst this
    exact ⟨j, by simp, hji, Int.le_refl _⟩
  | a :: b :: r, hT, hs, hjT =>
    have ha : (oprN L a).to ≤ (oprN L j).to := by
      rcases List.mem_cons.1 hjT with e | e
      · subst e; exact Int.le_refl _
      · exact (List.pairwise_cons.1 hs).1 j e
    by_cases hai : a = i
    · have hab : a ≠ b := fun e => by
        have := (List.nodup_cons.1 hT).1
        exact this (by rw [e]; exact List.mem_cons_self)
      have hjr : j ∈ b :: r := by
        rcases List.mem_cons.1 hjT with e | e
        · exact absurd (e.trans hai) hji
        · exact e
      have hb : (oprN L b).to ≤ (oprN L j).to := by
        rcases List.mem_cons.1 hjr with e | e
        · subst e; exact Int.le_refl _
        · exact (List.pairwise_cons.1 (List.pairwise_cons.1 hs).2).1 j e
      exact ⟨b, by simp, fun e => hab (hai.trans e.symm), hb⟩
    · exact ⟨a, by simp, hai, ha⟩
end Go.Proofs.YtiafjbhekfpkbaaGreatDoor
namespace Go.Proofs.YtiafjbhekfpkbaaGreatDoor
set_option linter.unusedSimpArgs false
set_option linter.unusedVariables false
open Go.ChangeShapes Go.WideShapes Go.ChangeAt Go.RowKit Go.Maps
set_option linter.unusedSimpArgs false

theorem stay_all (p : Nat → Bool) (R : List Nat) : stayP p R R.length = R.filter fun x => !p x := by unfold stayP; rw [List.take_length]
theorem mem_getD {R : List Nat} {m : Nat} (h : ∀ i, i < R.length → R.getD i 0 < m) : ∀ x, x ∈ R → x < m := fun x hx => by
  obtain ⟨i, hi, rfl⟩ := List.mem_iff_getElem.1 hx
  have h3 := h i hi
  simpa only [List.getD, List.getElem?_eq_getElem hi, Option.getD_some] using h3
set_option maxHeartbeats 2000000 in
theorem pFirst_any (A D : Option Addr) (c d : Nat) (L : List Opr) (R : List Nat) (hL : L.length ≤ 1000000) (hR : R.length ≤ 1000000) (hm : ∀ i, i < R.length → R.getD i 0 < L.length) (hn : R.Nodup) (w : World) (ha : LiesC w A (flatF opF L)) (hab : 0 < L.length → ∀ p, A = some p → p.block < w.heap.size) (hd : LiesC w D (flatI (natI R))) :
    Calls Tryz.prog 19 #[.slice A L.length c, .slice D R.length d] w fun e w' => ∃ (F : List Nat) (v : Value), e = .returned v ∧ F.length ≤ 2 ∧ First2 L R F ∧ LnIs w' v F.length (flatI (natI F)) ∧ Below w.heap.size w w' := by
  have HT : Hid (∀ W : World, w.alloc (.cells #[.slice A L.length c] 22) = W → AtL W w.heap.size A c L ∧ LiesC W D (flatI (natI R)) ∧ Below w.heap.size w W ∧ W.heap.size = w.heap.size + 1) := Lib.hid fun W hW => by
    subst hW
    exact ⟨⟨by simp, (Cells.new w #[.slice A L.length c] 22).cell 0, ha.alloc _⟩, hd.alloc _, (Below.refl _ _).alloc (Nat.le_refl _) _, by simp⟩
  have HC := Lib.hid (fun (W : World) h => cloneG D d R hR W h)
  have HDel := Lib.hid (fun (v B : Nat) (hv : v < B) (hA : 0 < L.length → ∀ p, A = some p → p.block < B) (a : Option Addr) (c' : Nat) (W : World) (hw : AtL W v A c L) (hB : B ≤ W.heap.size) (h : RowG B W a c' R) =>
    delG 30 #[.pointer (some ⟨v, 0, none⟩)] (enters_of Tryz.func30 (by kernel_rfl) rfl) (fun i => !ansB (oprN L i)) L.length B (fun W => AtL W v A c L) (fun i W hi h => delC_any v A c L hL i hi W h) (fun W W' hb h => h.keep hb)
      (fun W W' ho h => h.only ho (by omega) (fun h0 p hp => by have := hA h0 p hp; omega)) a c' R hR hm W hw hB h)
  have hSm : ∀ x, x ∈ stayP (fun i => !ansB (oprN L i)) R R.length → x < L.length := fun x hx => by
    rw [stay_all] at hx
    exact mem_getD hm x (List.mem_filter.1 hx).1
  have hSl : (stayP (fun i => !ansB (oprN L i)) R R.length).length ≤ 1000000 := Nat.le_trans (stayP_len _ _ _) hR
  have HSo := Lib.hid (fun (v B : Nat) (hv : v < B) (hA : 0 < L.length → ∀ p, A = some p → p.block < B) (a : Option Addr) (c' : Nat) (W : World) (hw : AtL W v A c L) (h : RowG B W a c' (stayP (fun i => !ansB (oprN L i)) R R.length)) =>
    sortG v A c L hL B a c' (stayP (fun i => !ansB (oprN L i)) R R.length) hSl hSm hv hA W hw h)
  have HF : Hid (∀ T, SortR L (stayP (fun i => !ansB (oprN L i)) R R.length) T → First2 L R (T.take 2) ∧ T.length = (stayP (fun i => !ansB (oprN L i)) R R.length).length) := Lib.hid fun T hT => by
    refine ⟨first_is hn ?_, hT.perm.length_eq⟩
    rw [stay_all] at hT
    simpa using hT
  have HAB := Lib.hid hab
  clear ha hd hm hn hab hSm
  generalize hS : stayP (fun i => !ansB (oprN L i)) R R.length = S at *
  clear hS
  generalize hml : L.length = m at *
  generalize hnl : R.length = n at *
  go_enter Tryz.func19, Tryz.ntmps19
  go_upto_region 1 with fail
  generalize hW : World.alloc _ _ = W
  have HX := Lib.hid (HT.out W hW)
  clear hW HT
  go_wp2_with fail
  refine (HC.out W HX.out.2.1).mono ?_
  rintro e w1 ⟨a, c1, rfl, hg, hb⟩
  have HR1 := Lib.hid hg; have HB1 := Lib.hid hb
  have HL1 := Lib.hid (HX.out.1.keep hb)
  clear hg hb HC
  go_wp2_with fail
  refine (HDel.out w.heap.size W.heap.size (by have := HX.out.2.2.2; omega) (fun h0 p hp => by have := HAB.out (by omega) p hp; have := HX.out.2.2.2; omega) a c1 w1 HL1.out HB1.out.size HR1.out).mono ?_
  rintro e w2 ⟨rfl, hg, ho⟩
  have HR2 := Lib.hid hg; have HO2 := Lib.hid ho
  have HL2 := Lib.hid (HL1.out.only ho (by have := HX.out.2.2.2; omega) (fun h0 p hp => by have := HAB.out (by omega) p hp; have := HX.out.2.2.2; omega))
  clear hg ho HDel
  go_wp2_with fail
  refine (HSo.out w.heap.size W.heap.size (by have := HX.out.2.2.2; omega) (fun h0 p hp => by have := HAB.out (by omega) p hp; have := HX.out.2.2.2; omega) a c1 w2 HL2.out HR2.out).mono ?_
  rintro e w3 ⟨rfl, ⟨T, hT, hg⟩, ho⟩
  have HR3 := Lib.hid hg; have HO3 := Lib.hid ho
  have HFT := Lib.hid (HF.out T hT)
  clear hg ho hT HSo HF
  have hle := HR3.out.le
  rw [HFT.out.2] at hle
  obtain ⟨q, hq⟩ : ∃ q : Nat, q = min 2 S.length := ⟨_, rfl⟩
  have hmin : min (2 : Int) (S.length : Int) = (q : Int) := by omega
  have hqc : q ≤ c1 := by omega
  have HQ := Lib.hid hq
  clear hq
  go_wp2_with fail
  go_ret
  have hl : (T.take 2).length = q := by rw [List.length_take, HFT.out.2]; exact HQ.out.symm
  have hz := (HR3.out.cut 2).lnIs
  rw [hl] at hz
  refine ⟨T.take 2, _, rfl, (by rw [List.length_take]; omega), HFT.out.1, by rw [hl]; simpa using hz, ?_⟩
  have hb1 := HX.out.2.2.1.trans (HB1.out.mono HX.out.2.2.1.size)
  exact Below.only (Below.only hb1 HO2.out hb1.size (fun i hi => Nat.le_trans HX.out.2.2.1.size hi)) HO3.out (by have := HO2.out.size; have := hb1.size; omega) (fun i hi => Nat.le_trans HX.out.2.2.1.size hi)
end Go.Proofs.YtiafjbhekfpkbaaGreatDoor
