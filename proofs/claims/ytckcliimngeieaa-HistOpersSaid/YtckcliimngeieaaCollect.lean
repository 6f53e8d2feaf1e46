/- slices.AppendSeq, Collect, SortedFunc over what hist.spots tells. -/
import Derived.Test.YtckcliimngeieaaSpotsIt
import Derived.Shelf.AbstractIn
import Derived.Maps.AppendAt
namespace Go.Proofs.Ytckcliimngeieaa
open Go.ChangeShapes Go.WideShapes Go.ChangeAt Go.RowKit Go.Shelf
set_option linter.unusedVariables false
set_option linter.unusedSimpArgs false
attribute [local go_sem] Oper.semAt_some

theorem opr_lt {w : World} {A : Option Addr} {L : List Opr} (h : LiesC w A (flatF opF L)) : ∀ a, A = some a → 0 < L.length → a.block < w.heap.size := fun a e h0 => by
  obtain ⟨b, off, rfl, hb, _⟩ := h.atO h0
  cases e
  exact hb
theorem spots_stops (M : Nat → Prop) (Bl c : Nat) (A : Option Addr) (L : List Opr) (hL : L.length ≤ 1000000) (w : World) (hM : ∀ i, M i → i < w.heap.size) (hMl : ¬ M Bl) (hA : ∀ a, A = some a → 0 < L.length → ¬ M a.block)
    (hBl : w.cell? ⟨Bl, 0, none⟩ = some (.slice A L.length c)) (hl : LiesC w A (flatF opF L)) :
    SeqC Fence.wide 5 Try.prog 29 #[.pointer (some ⟨Bl, 0, none⟩)] told3 M 0 (fun ys => ys = spotsUp L L.length) (fun pre => pre <+: spotsUp L L.length) w := fun l J Jx W hW hJ _ hY h0 =>
  spots1_in M l Bl c w.heap.size A L hL hM hMl hA (opr_lt hl) (World.block_lt_of_cell? w _ hBl) J Jx W hW.size hY hJ ((hW.cell (p := ⟨Bl, 0, none⟩) (World.block_lt_of_cell? w _ hBl)).trans hBl) (hl.keep hW) h0

theorem infoSpt : ∃ i0, Try.prog.info? 54 = some i0 ∧ i0.zero = some (.agg (spF ⟨0, 0, 0⟩).toArray) ∧ i0.size = 3 ∧ i0.bytes = 24 := by
  have h : (Try.prog.info? 54).map (fun i => (i.zero, i.size, i.bytes)) = some (some (.agg (spF ⟨0, 0, 0⟩).toArray), 3, 24) := by kernel_rfl
  exact info_parts h

/-- The list so far: the box, the row. -/
structure ColR (w : World) (G : Nat) (v : Value) (xs : List Spt) (W : World) : Prop where
  var : Boxed W w.heap.size 51 v
  own : W.ownsRow G 54 3 v xs.length (flatF spF xs)
  bel : Below w.heap.size w W
theorem colR_only {w : World} {G B : Nat} {v : Value} (hB : w.heap.size + 1 ≤ B) : AbC B G (ColR w G v) := fun os W W' h ho =>
  ⟨(ho.2 _ h.var.lt (by omega)).trans h.var, own_onlyC h.own ho (by omega), Below.only h.bel ho h.bel.size (fun i hi => by omega)⟩

theorem own_base {w : World} {B B' size n : Nat} {e : TypeId} {v : Value} {cs : List Value} (h : w.ownsRow B e size v n cs) (hb : B' ≤ B) : w.ownsRow B' e size v n cs := by
  refine ⟨h.1, ?_⟩
  rcases h.2 with h | ⟨g, cap, cur, h1, h2, h3⟩
  · exact .inl h
  · exact .inr ⟨g, cap, cur, h1, Nat.le_trans hb h2, h3⟩
theorem only_growC {F : Nat → Prop} {W W' : World} {row : Option Nat} (hg : W.grownBy W' row) (hr : ∀ r, row = some r → F r) : Only F W W' :=
  ⟨(Below.refl 0 W).grown hg (Nat.zero_le _) (fun _ _ => Nat.zero_le _), fun i hi hn => hg.block i hi (fun e => hn (hr i e.symm))⟩
theorem ColR.more {w : World} {G d : Nat} {xs : List Spt} {W w1 : World} {v v' : Value} {ob : Obj} {x : Spt} (h : ColR w (w.heap.size + G) v xs W) (hG : 1 ≤ G) (hd : ∀ k, v.ownBlock = some k → k < d)
    (hown : w1.ownsRow (w.heap.size + G) 54 3 v' (xs.length + 1) (flatF spF xs ++ spF x)) (hg : (W.alloc ob).grownBy w1 v.ownBlock) :
    Boxed w1 w.heap.size 51 v ∧ ColR w (w.heap.size + G) v' (xs ++ [x]) (w1.setCell ⟨w.heap.size, 0, none⟩ v') ∧ Only (fun i => i = w.heap.size ∨ (w.heap.size + G ≤ i ∧ i < d)) W (w1.setCell ⟨w.heap.size, 0, none⟩ v') := by
  have ho : Only (fun i => w.heap.size + G ≤ i ∧ i < d) W w1 := (only_below ((Below.refl _ W).alloc (Nat.le_refl _) ob) _).trans (only_growC hg fun r e => ⟨(h.own.lt r e).1, hd r e⟩)
  have hv1 : Boxed w1 w.heap.size 51 v := (ho.2 _ h.var.lt (by omega)).trans h.var
  have ho2 : Only (fun i => i = w.heap.size ∨ (w.heap.size + G ≤ i ∧ i < d)) W (w1.setCell ⟨w.heap.size, 0, none⟩ v') := (ho.mono fun i _ hi => .inr hi).setCell (p := ⟨w.heap.size, 0, none⟩) (.inl rfl) v'
  refine ⟨hv1, ⟨hv1.set v', ?_, Below.only h.bel ho2 h.bel.size (fun i hi => by omega)⟩, ho2⟩
  rw [List.length_append, flatF_append, flatF_single]
  exact own_setCell hown (fun e => by have := (hown.lt _ e).1; simp at this; omega) v'

set_option maxRecDepth 100000 in
set_option maxHeartbeats 2000000 in
theorem append_any (Bl c : Nat) (A : Option Addr) (L : List Opr) (hL : L.length ≤ 10000) (w : World) (hBl : w.cell? ⟨Bl, 0, none⟩ = some (.slice A L.length c)) (hl : LiesC w A (flatF opF L)) :
    Calls Try.prog 34 #[.slice none 0 0, .func (.func 29) #[] #[.pointer (some ⟨Bl, 0, none⟩)]] w fun e w' => ∃ v, e = .returned v ∧
      w'.ownsRow w.heap.size 54 3 v (spotsUp L L.length).length (flatF spF (spotsUp L L.length)) ∧ Below w.heap.size w w' := by
  refine (callsIn_wide (n := 6)).1 ?_
  have HA := Lib.hid (And.intro hBl hl)
  clear hBl hl
  have hf2 : Fence.wide.fn 29 := trivial
  refine callsIn_of_wp_marks Try.func34 rfl trivial ?_ rfl
  simp only [Try.ntmps34, List.size_toArray, List.length_cons, List.length_nil, Nat.reduceAdd, Nat.reduceSub, Array.replicate_succ, Array.replicate_zero, List.push_toArray, List.append_toArray, List.nil_append, List.cons_append]
  gi_wp2
  have R0 : ColR w (w.heap.size + 3) (.slice none 0 0) [] (w.alloc (.cells #[.slice none 0 0] 51)) := ⟨Boxed.new w _ _, World.ownsRow_nil _ _ _ _, (Below.refl _ w).alloc (Nat.le_refl _) _⟩
  have hsz : (w.alloc (.cells #[.slice none 0 0] 51)).heap.size = w.heap.size + 1 := by simp
  obtain ⟨W0, hW0⟩ : ∃ W0, w.alloc (.cells #[.slice none 0 0] 51) = W0 := ⟨_, rfl⟩
  rw [hW0] at R0 hsz ⊢
  clear hW0
  have hlt := opr_lt HA.out.2
  have hbl := World.block_lt_of_cell? w _ HA.out.1
  obtain ⟨i0, hi0, hz0, hz1, hz3⟩ := infoSpt
  have hsl := spotsUp_len L L.length
  refine wpIn_rangeC (M := fun i => i = w.heap.size) rfl (by omega) (gf := 29) (lb := #[.pointer (some ⟨Bl, 0, none⟩)]) rfl trivial (enters_of Try.func29 (by kernel_rfl) rfl)
    (spots_stops (fun i => i = w.heap.size) Bl c A L (by omega) W0 (fun i hi => by omega) (by show Bl ≠ w.heap.size; exact Nat.ne_of_lt hbl) (fun a e h0 => by have := hlt a e h0; omega) (cell_keep R0.bel HA.out.1) (HA.out.2.keep R0.bel))
    (Below.refl _ _) (fun i hi => by omega) (fun _ => rfl)
    (fun (pre : List Spt) W => ∃ v, ColR w (w.heap.size + 3) v pre W)
    (fun _ (_ : List Spt) _ => False)
    (fun s W W' ⟨v, hs⟩ ho => by rw [hsz] at ho; exact ⟨v, colR_only (Nat.le_refl _) _ W W' hs ho⟩)
    (fun c => AbC.pure _ _ _)
    ⟨_, R0⟩
    (fun x a' W => ∃ Bx, w.heap.size + 3 ≤ Bx ∧ Cells W Bx 54 (spF x) ∧ a' = { tmps := #[.slice none 0 0, .func (.func 29) #[] #[.pointer (some ⟨Bl, 0, none⟩)], .pointer (some ⟨w.heap.size, 0, none⟩), undef, .slice none 0 0, .pointer (some ⟨Bx, 0, none⟩), .func (.func 29) #[] #[.pointer (some ⟨Bl, 0, none⟩)], .agg #[.int .i64 x.p, .int .i64 x.k, .int .i64 x.o], undef, undef, undef, undef, undef], defers := [] })
    (fun x a' _ W W' ⟨Bx, h1, h2, h3⟩ ho => ⟨Bx, h1, (ho.2 _ h2.lt (by rw [hsz]; omega)).trans h2, h3⟩)
    ?assign ?body ?done ?stop
  case assign =>
    rintro l pre ⟨p, k, o⟩ W K hz hi hK
    simp only [told3]
    gi_wp2
    exact hK _ _ ((Below.refl _ W).alloc (Nat.le_refl _) _) ⟨W.heap.size, by omega, Cells.new W (spF ⟨p, k, o⟩).toArray 54, rfl⟩
  case body =>
    rintro l pre x a' V W n1 hz hn1 hn2 ⟨vv, RV⟩ hoV ⟨Bx, hBx, hcx, rfl⟩ hpr
    rw [hsz] at hz hoV ⊢
    have R := colR_only (Nat.le_refl _) _ V W RV hoV
    have hdv : ∀ k, vv.ownBlock = some k → k < V.heap.size := fun k e => (RV.own.lt k e).2
    have hlen : pre.length + 1 ≤ 2 * L.length := by
      have := hpr.length_le
      rw [List.length_append] at this
      simp only [List.length_cons, List.length_nil] at this
      omega
    clear RV hoV hpr
    obtain ⟨A2, c2, rfl, _⟩ := lnIs_of_own R.own
    have k2 := R.var.cell
    have x0 : W.cell? ⟨Bx, 0, none⟩ = some (.int .i64 x.p) := hcx.cell 0
    have x1 : W.cell? ⟨Bx, 1, none⟩ = some (.int .i64 x.k) := hcx.cell 1
    have x2 : W.cell? ⟨Bx, 2, none⟩ = some (.int .i64 x.o) := hcx.cell 2
    have HR := Lib.hid R
    have HD := Lib.hid hdv
    clear R hdv hcx
    gi_wp2_with (gi_at_builtin; refine wpListIn_append_own _ rfl _ _ 51 rfl (w.heap.size + 3) 54 i0 (.agg (spF ⟨0, 0, 0⟩).toArray) 3 24 Try.underlying51 hi0 hz0 hz1 hz3 rfl (by decide) _ _ _ rfl (HR.out.own.alloc _) ⟨W.heap.size, 0, none⟩ 1 1 (spF x) rfl rfl (Cells.new W (spF x).toArray 54).news (spF_one _) (by unfold maxLen; omega) (by omega) (by simp; omega) ?_; intro v' w1 hown' hgrow _; obtain ⟨g', cap', rfl⟩ := ownsRow_succ hown'; have hM1 := HR.out.more (by omega) HD.out hown' hgrow; have hc1 := hM1.1.cell; have hf1 := hM1.1.frozen; have HM := Lib.hid hM1; clear hM1 hown' hgrow)
    exact ⟨HM.out.2.2.mono fun i _ h => h.elim .inl fun h => .inr (.inl ⟨by omega, by omega⟩), ⟨_, HM.out.2.1⟩⟩
  case done =>
    rintro ys W rfl ⟨v, R⟩ hK
    obtain ⟨A2, c2, rfl, _⟩ := lnIs_of_own R.own
    have k2 := R.var.cell
    have HR := Lib.hid R
    clear R
    gi_wp2
    rw [hsz] at hK
    refine ⟨by simp, .inl ⟨_, _, rfl, run_takeDeferred hK, ?_⟩⟩
    have ho : Only (fun i => i = w.heap.size + 1) W (W.putObj (w.heap.size + 1) (.deferred none)) := only_put _ _ _ rfl
    refine ⟨.slice A2 (spotsUp L L.length).length c2, ?_, _, rfl, ?_, Below.only HR.out.bel ho HR.out.bel.size (fun i hi => by omega)⟩
    · simp [results, Try.f34, go_sem]
    · have h1 := own_onlyC HR.out.own ho (by omega)
      exact own_base h1 (by omega)
  case stop =>
    rintro c' pre W _ h _
    exact h.elim

theorem sortS_nil : sortS [] = [] := List.eq_nil_of_length_eq_zero (sortS_len [])
theorem collect_any (Bl c : Nat) (A : Option Addr) (L : List Opr) (hL : L.length ≤ 10000) (w : World) (hBl : w.cell? ⟨Bl, 0, none⟩ = some (.slice A L.length c)) (hl : LiesC w A (flatF opF L)) :
    Calls Try.prog 27 #[.func (.func 29) #[] #[.pointer (some ⟨Bl, 0, none⟩)]] w fun e w' => ∃ v, e = .returned v ∧
      w'.ownsRow w.heap.size 54 3 v (spotsUp L L.length).length (flatF spF (spotsUp L L.length)) ∧ Below w.heap.size w w' := by
  have C := Lib.hid (append_any Bl c A L hL w hBl hl)
  clear hBl hl
  go_enter Try.func27, Try.ntmps27
  go_wp2_with (go_at_call 34; refine C.out.mono ?_; rintro e w1 ⟨v, rfl, h1, h2⟩; have H := Lib.hid (And.intro h1 h2); clear h1 h2)
  go_ret
  exact ⟨_, rfl, H.out⟩

theorem sorted_any (Bl c : Nat) (A : Option Addr) (L : List Opr) (hL : L.length ≤ 10000) (w : World) (hBl : w.cell? ⟨Bl, 0, none⟩ = some (.slice A L.length c)) (hl : LiesC w A (flatF opF L)) :
    Calls Try.prog 20 #[.func (.func 29) #[] #[.pointer (some ⟨Bl, 0, none⟩)], .func (.func 22) #[] #[]] w fun e w' => ∃ v, e = .returned v ∧
      w'.ownsRow w.heap.size 54 3 v (sortS (spotsUp L L.length)).length (flatF spF (sortS (spotsUp L L.length))) ∧ Below w.heap.size w w' := by
  have C := Lib.hid (collect_any Bl c A L hL w hBl hl)
  have hsl := spotsUp_len L L.length
  clear hBl hl
  generalize spotsUp L L.length = xs at *
  go_enter Try.func20, Try.ntmps20
  go_upto_region 2 with (go_at_call 27; refine C.out.mono ?_; rintro e w1 ⟨v, rfl, h1, h2⟩)
  rcases Nat.eq_zero_or_pos xs.length with h0 | h0
  · obtain rfl := List.eq_nil_of_length_eq_zero h0
    rcases h1.2 with ⟨rfl, _⟩ | ⟨g, cap, cur, rfl, hg⟩
    · have HB := Lib.hid h2
      clear h1 h2
      go_wp2_with (go_at_call 28; refine (sort_none _ _ _).mono ?_; rintro e w2 ⟨rfl, rfl⟩)
      go_ret
      refine ⟨_, rfl, ?_, HB.out⟩
      rw [sortS_nil]
      exact World.ownsRow_nil _ _ _ _
    · have h3 : w1.ownsRow w.heap.size 54 3 (.slice (some ⟨g, 0, none⟩) 0 cap) 0 [] := ⟨rfl, .inr ⟨g, cap, cur, rfl, hg⟩⟩
      have CS := Lib.hid (sort_any w1 w.heap.size g cap [] (by simp) h3)
      have HB := Lib.hid (And.intro h2 (And.intro h3 (own_blockAt h3)))
      clear h1 h2 h3 hg
      go_wp2_with (go_at_call 28; refine CS.out.mono ?_; rintro e w2 ⟨rfl, hs1, hs2⟩; have HS := Lib.hid (And.intro hs1 hs2); clear hs1 hs2)
      go_ret
      refine ⟨_, rfl, ?_, Below.only HB.out.1 HS.out.2 HB.out.1.size (fun i hi => by subst hi; exact HB.out.2.2.1)⟩
      have h := HS.out.1
      rw [sortS_nil] at h ⊢
      exact h
  · obtain ⟨n, hn⟩ : ∃ n, xs.length = n + 1 := ⟨xs.length - 1, by omega⟩
    have h3 := h1
    rw [hn] at h3
    obtain ⟨g, cap, rfl⟩ := ownsRow_succ h3
    clear h3
    rw [← hn] at h1
    have CS := Lib.hid (sort_any w1 w.heap.size g cap xs (by omega) h1)
    have HB := Lib.hid (And.intro h2 (own_blockAt h1))
    have HL := Lib.hid (sortS_len xs)
    rw [← hn]
    clear h1 h2 hn n
    go_wp2_with (go_at_call 28; refine CS.out.mono ?_; rintro e w2 ⟨rfl, hs1, hs2⟩; have HS := Lib.hid (And.intro hs1 hs2); clear hs1 hs2)
    go_ret
    exact ⟨_, rfl, by rw [HL.out]; exact HS.out.1, Below.only HB.out.1 HS.out.2 HB.out.1.size (fun i hi => by subst hi; exact HB.out.2.1)⟩
end Go.Proofs.Ytckcliimngeieaa
