/- hist.spots, and what it tells. -/
import Derived.Test.YtckcliimngeieaaSeqC
import Derived.Test.YtckcliimngeieaaSortSpots
import Derived.Test.YtckcliimngeieaaHistSmall
import Derived.Sort.CutIn
namespace Go.Proofs.Ytckcliimngeieaa
open Go.ChangeShapes Go.WideShapes Go.ChangeAt Go.RowKit Go.Shelf
set_option linter.unusedVariables false
set_option linter.unusedSimpArgs false
attribute [local go_sem] Oper.semAt_some

/-- Where an oper begins, and where it ends. -/
def sptOf (o : Opr) (i : Nat) : List Spt := bif decide (o.fr < 0) then [] else ⟨o.fr, 0, i⟩ :: (bif decide (0 ≤ o.to) then [⟨o.to, 1, i⟩] else [])
def spotsUp (L : List Opr) : Nat → List Spt
  | 0 => []
  | i + 1 => spotsUp L i ++ sptOf (oprN L i) i
theorem spotsUp_len (L : List Opr) : ∀ i, (spotsUp L i).length ≤ 2 * i
  | 0 => Nat.le_refl _
  | i + 1 => by
    have := spotsUp_len L i
    unfold spotsUp sptOf
    rw [List.length_append]
    cases decide ((oprN L i).fr < 0) <;> cases decide (0 ≤ (oprN L i).to) <;> simp only [cond, List.length_cons, List.length_nil] <;> omega
theorem spotsUp_pre (L : List Opr) (i : Nat) : ∀ d, spotsUp L i <+: spotsUp L (i + d)
  | 0 => List.prefix_refl _
  | d + 1 => (spotsUp_pre L i d).trans (List.prefix_append _ _)
theorem spotsUp_le {L : List Opr} {i n : Nat} (h : i ≤ n) : spotsUp L i <+: spotsUp L n := by
  have := spotsUp_pre L i (n - i)
  rwa [show i + (n - i) = n by omega] at this
def told3 (x : Spt) : Array Value := #[.agg #[.int .i64 x.p, .int .i64 x.k, .int .i64 x.o]]

theorem spots_any (A : Option Addr) (m c : Nat) (w : World) :
    Calls Try.prog 21 #[.slice A m c] w fun e w' => e = .returned (.func (.func 29) #[] #[.pointer (some ⟨w.heap.size, 0, none⟩)]) ∧ w' = w.alloc (.cells #[.slice A m c] 24) := by
  go_enter Try.func21, Try.ntmps21
  go_wp2_with fail
  go_ret
  exact ⟨rfl, rfl⟩

set_option maxRecDepth 100000 in
set_option maxHeartbeats 2000000 in
theorem spots1_in (M : Nat → Prop) (l Bl c a0 : Nat) (A : Option Addr) (L : List Opr) (hL : L.length ≤ 1000000) (hM : ∀ i, M i → i < a0) (hMl : ¬ M Bl) (hA : ∀ a, A = some a → 0 < L.length → ¬ M a.block) (hA0 : ∀ a, A = some a → 0 < L.length → a.block < a0) (hBl0 : Bl < a0) (J Jx : List Spt → World → Prop) (W : World) (ha0 : a0 ≤ W.heap.size)
    (hY : ∀ pre x W0 W1, W.heap.size + 0 ≤ W1.heap.size → J pre W0 → Only (fun i => W.heap.size ≤ i ∧ i < W.heap.size + 0) W0 W1 → (pre ++ [x] <+: spotsUp L L.length) → YieldAt Fence.wide (5 - 1) Try.prog l (told3 x) W1 fun e W' =>
      (e = .returned (.bool true) ∧ J (pre ++ [x]) W' ∧ Only (Rnd M a0 W.heap.size (W.heap.size + 0) W0.heap.size) W1 W') ∨ (e = .returned (.bool false) ∧ Jx (pre ++ [x]) W'))
    (hJ : AbC W.heap.size (W.heap.size + 0) J) (hBl : W.cell? ⟨Bl, 0, none⟩ = some (.slice A L.length c)) (hl : LiesC W A (flatF opF L)) (h0 : J [] W) :
    CallsIn Fence.wide 5 Try.prog 29 #[.func (.yield l) #[] #[], .pointer (some ⟨Bl, 0, none⟩)] W fun e W' => (∃ v, e = .returned v) ∧
      ((∃ ys, ys = spotsUp L L.length ∧ J ys W') ∨ (∃ pre, pre <+: spotsUp L L.length ∧ Jx pre W')) := by
  have HY := Lib.hid hY; have HL := Lib.hid hl; have HJ := Lib.hid hJ; have HA := Lib.hid (And.intro hA hA0)
  clear hY hl hJ hA hA0
  have hfn : Fence.wide.fn 19 := trivial
  generalize hm : L.length = m at *
  have HM := Lib.hid hm; clear hm
  refine callsIn_of_wp Try.func29 rfl trivial ?_ rfl
  simp only [Try.ntmps29, List.size_toArray, List.length_cons, List.length_nil, Nat.reduceAdd, Nat.reduceSub, Array.replicate_succ, Array.replicate_zero, List.push_toArray, List.append_toArray, List.nil_append, List.cons_append]
  gi_wp2
  clear hBl
  gi_loopw [7] (fun i wr => ∃ k : Nat, k ≤ m ∧ i = .int .i64 k ∧ J (spotsUp L k) wr ∧ Only (fun i => M i ∨ a0 ≤ i) W wr) (fun i _ => m - (intOf i).toNat)
  case atStart => exact ⟨0, Nat.zero_le _, rfl, h0, Only.refl _ _⟩
  case round =>
    clear h0
    obtain ⟨k, hk, rfl, hJs, hO⟩ := hrel
    by_cases hlt : k < m
    · obtain ⟨b, off, rfl, hb, x1⟩ := (HL.out.only hO (fun a e hh => by have h1 := HA.out.1 a e (by omega); have h2 := HA.out.2 a e (by omega); rcases hh with hh | hh; exact h1 hh; omega)).atO (by rw [HM.out]; omega)
      obtain ⟨p0, p1, p2, p3, p4, p5, p6, p7, p8, p9, p10, p11, p12, p13, p14, p15⟩ := opr_cells (x1 k (by rw [HM.out]; omega))
      have HS : Hid (spotsUp L (k + 1) = spotsUp L k ++ sptOf (oprN L k) k) := Lib.hid rfl
      have hpre : spotsUp L (k + 1) <+: spotsUp L m := spotsUp_le (by omega)
      rw [HS.out] at hpre
      have HP := Lib.hid hpre
      clear x1 hpre
      gi_upto_region 3 with fail
      generalize hW2 : World.alloc _ _ = W2
      obtain ⟨hb2, hx⟩ := one_cells _ _ _ W2 hW2
      obtain ⟨q0, q1, q2, q3, q4, q5, q6, q7, q8, q9, q10, q11, q12, q13, q14, q15⟩ := opr_cells (w := W2) (b := wr.heap.size) (o := 0) (x := oprN L k) (fun j _ => by rw [Nat.zero_add]; exact hx.cell j)
      simp only [Nat.zero_add] at q1 q2 q3 q4 q5 q6 q7 q8 q9 q10 q11 q12 q13 q14 q15
      have HX := Lib.hid hx
      have HK := Lib.hid (And.intro hJs (And.intro hb2 hO))
      have HE := Lib.hid (show sptOf (oprN L k) k = bif decide ((oprN L k).fr < 0) then [] else ⟨(oprN L k).fr, 0, k⟩ :: (bif decide (0 ≤ (oprN L k).to) then [⟨(oprN L k).to, 1, k⟩] else []) from rfl)
      clear hx hb2 hW2 hJs hO p0 p1 p2 p3 p4 p5 p6 p7 p8 p9 p10 p11 p12 p13 p14 p15
      by_cases hfr : (oprN L k).fr < 0
      · rw [decide_eq_true hfr] at HE
        have HS2 := Lib.hid (HS.out.trans (congrArg (spotsUp L k ++ ·) HE.out))
        clear HE
        gi_wp2
        go_roundw
        case rel => exact ⟨k + 1, by omega, by go_num, by rw [HS2.out]; simp only [cond, List.append_nil]; exact HJ.out.below HK.out.1 HK.out.2.1, HK.out.2.2.then HK.out.2.1⟩
        case measure => simp [intOf]; omega
      · have hfd : decide ((oprN L k).fr < 0) = false := decide_eq_false hfr
        rw [hfd, cond_false] at HE
        have hws : W.heap.size ≤ wr.heap.size := HK.out.2.2.size
        have hY1 : YieldAt Fence.wide (5 - 1) Try.prog l #[.agg #[.int .i64 (oprN L k).fr, .int .i64 0, .int .i64 (k : Int)]] W2 fun e W' =>
            (e = .returned (.bool true) ∧ J (spotsUp L k ++ [⟨(oprN L k).fr, 0, k⟩]) W' ∧ Only (Rnd M a0 W.heap.size (W.heap.size + 0) wr.heap.size) W2 W') ∨ (e = .returned (.bool false) ∧ Jx (spotsUp L k ++ [⟨(oprN L k).fr, 0, k⟩]) W') :=
          HY.out (spotsUp L k) ⟨(oprN L k).fr, 0, k⟩ wr W2 (by have := HK.out.2.1.size; omega) HK.out.1 (only_below HK.out.2.1 _) (List.IsPrefix.trans ⟨_, by rw [HE.out, List.append_assoc]; rfl⟩ HP.out)
        have HPX := Lib.hid (show spotsUp L k ++ [⟨(oprN L k).fr, 0, (k : Int)⟩] <+: spotsUp L m from List.IsPrefix.trans ⟨_, by rw [HE.out, List.append_assoc]; rfl⟩ HP.out)
        obtain ⟨fn, tmps, assign, body, hy, hR⟩ := hY1
        have hC := fun W => hAnswered_any (oprN L k) W
        have HC := Lib.hid hC
        clear hC
        have HY2 := Lib.hid (fun (hto : 0 ≤ (oprN L k).to) W3 w4 (h1 : W.heap.size + 0 ≤ w4.heap.size) hJ (hb : Only (fun i => W.heap.size ≤ i ∧ i < W.heap.size + 0) W3 w4) => HY.out (spotsUp L k ++ [⟨(oprN L k).fr, 0, k⟩]) ⟨(oprN L k).to, 1, k⟩ W3 w4 h1 hJ hb (by
          have h2 := HP.out
          rw [HE.out, decide_eq_true hto] at h2
          rw [List.append_assoc]
          exact h2))
        have HPX2 : Hid (0 ≤ (oprN L k).to → spotsUp L k ++ [⟨(oprN L k).fr, 0, (k : Int)⟩] ++ [⟨(oprN L k).to, 1, (k : Int)⟩] <+: spotsUp L m) := Lib.hid fun hto => by
          have h2 := HP.out
          rw [HE.out, decide_eq_true hto] at h2
          rw [List.append_assoc]
          exact h2
        have hfr0 : 0 ≤ (oprN L k).fr := by omega
        have HSE : Hid (spotsUp L (k + 1) = spotsUp L k ++ ⟨(oprN L k).fr, 0, k⟩ :: (bif decide (0 ≤ (oprN L k).to) then [⟨(oprN L k).to, 1, k⟩] else [])) := Lib.hid (by rw [HS.out, HE.out])
        have HK2 := Lib.hid HK.out.2
        clear HS HE HP HK HY hfd hfr
        generalize hg2 : wr.heap.size = g2 at *
        by_cases hto : 0 ≤ (oprN L k).to
        · rw [decide_eq_true hto] at HSE
          have HY3 := Lib.hid (HY2.out hto)
          clear HY2
          gi_upto_region 4 with fail
          gi_wp2
          refine hR.mono ?_
          rintro e W3 (⟨rfl, hJ3, hk3⟩ | ⟨rfl, hJx3⟩)
          · have hx3 := HX.out.only hk3 (by
              rintro (h | ⟨h1, h2⟩ | ⟨h1, h2⟩)
              · have := hM _ h; omega
              · omega
              · omega)
            obtain ⟨e0, e1, e2, e3, e4, e5, e6, e7, e8, e9, e10, e11, e12, e13, e14, e15⟩ := opr_cells (w := W3) (b := g2) (o := 0) (x := oprN L k) (fun j _ => by rw [Nat.zero_add]; exact hx3.cell j)
            simp only [Nat.zero_add] at e1 e2 e3 e4 e5 e6 e7 e8 e9 e10 e11 e12 e13 e14 e15
            have HX3 := Lib.hid hx3
            have hO3 : Only (fun i => M i ∨ a0 ≤ i) W W3 := (HK2.out.2.then (by rw [hg2]; exact HK2.out.1)).trans (hk3.mono fun i _ h => h.elim .inl fun h => .inr (by rcases h with ⟨h1, _⟩ | ⟨h1, _⟩ <;> omega))
            have HZ3 := Lib.hid (And.intro hJ3 hO3)
            have HYT := Lib.hid (fun w4 (hb : Below W3.heap.size W3 w4) => HY3.out W3 w4 (by have := hb.size; have := hO3.size; omega) hJ3 (only_below hb _))
            have HC3 := Lib.hid (HC.out W3)
            rw [decide_eq_true hto] at HC3
            clear hk3 hJ3 hO3 hx3 hR hy HC HY3 q0 q1 q2 q3 q4 q5 q6 q7 q8 q9 q10 q11 q12 q13 q14 q15
            gi_wp2_with (gi_at_call 19; refine (callsIn_wide.2 HC3.out).mono ?_; rintro e w4 ⟨rfl, hb4⟩; have hto4 : w4.cell? ⟨g2, 15, none⟩ = some (.int .i64 (oprN L k).to) := (HX3.out.keep hb4).cell 15; obtain ⟨fn2, tmps2, assign2, body2, hy2, hR2⟩ := HYT.out w4 hb4; dsimp only [told3] at hy2; have HB4 := Lib.hid hb4; clear hb4)
            refine hR2.mono ?_
            rintro e W5 (⟨rfl, hJ5, hk5⟩ | ⟨rfl, hJx5⟩)
            · have HZ := Lib.hid (And.intro hJ5 ((HZ3.out.2.then HB4.out).trans (hk5.mono fun i _ h => h.elim .inl fun h => .inr (by rcases h with ⟨h1, _⟩ | ⟨h1, _⟩ <;> omega)) : Only (fun i => M i ∨ a0 ≤ i) W W5))
              clear hJ5 hk5 hR2 hy2
              gi_wp2
              go_roundw
              case rel => exact ⟨k + 1, by omega, by go_num, by rw [HSE.out]; simp only [cond]; rw [show spotsUp L k ++ [⟨(oprN L k).fr, 0, (k : Int)⟩, ⟨(oprN L k).to, 1, (k : Int)⟩] = spotsUp L k ++ [⟨(oprN L k).fr, 0, (k : Int)⟩] ++ [⟨(oprN L k).to, 1, (k : Int)⟩] by simp]; exact HZ.out.1, HZ.out.2⟩
              case measure => simp [intOf]; omega
            · have HZ := Lib.hid hJx5
              clear hJx5 hR2 hy2
              gi_wp2
              refine bodyPost_ret (results_none rfl _ _ _) rfl ?_
              exact ⟨⟨_, rfl⟩, .inr ⟨_, HPX2.out hto, HZ.out⟩⟩
          · have HZ := Lib.hid hJx3
            clear hJx3 hR hy
            gi_wp2
            all_goals first | (simp only [undef, Option.some.injEq, reduceCtorEq] at *; done) | skip
            refine ⟨fun _ h => (by cases h), ?_⟩
            gi_wp2
            refine bodyPost_ret (results_none rfl _ _ _) rfl ?_
            exact ⟨⟨_, rfl⟩, .inr ⟨_, HPX.out, HZ.out⟩⟩
        · have hfd2 : decide (0 ≤ (oprN L k).to) = false := decide_eq_false hto
          rw [hfd2, cond_false] at HSE
          clear HY2
          gi_upto_region 4 with fail
          gi_wp2
          refine hR.mono ?_
          rintro e W3 (⟨rfl, hJ3, hk3⟩ | ⟨rfl, hJx3⟩)
          · have hx3 := HX.out.only hk3 (by
              rintro (h | ⟨h1, h2⟩ | ⟨h1, h2⟩)
              · have := hM _ h; omega
              · omega
              · omega)
            obtain ⟨e0, e1, e2, e3, e4, e5, e6, e7, e8, e9, e10, e11, e12, e13, e14, e15⟩ := opr_cells (w := W3) (b := g2) (o := 0) (x := oprN L k) (fun j _ => by rw [Nat.zero_add]; exact hx3.cell j)
            simp only [Nat.zero_add] at e1 e2 e3 e4 e5 e6 e7 e8 e9 e10 e11 e12 e13 e14 e15
            have hO3 : Only (fun i => M i ∨ a0 ≤ i) W W3 := (HK2.out.2.then (by rw [hg2]; exact HK2.out.1)).trans (hk3.mono fun i _ h => h.elim .inl fun h => .inr (by rcases h with ⟨h1, _⟩ | ⟨h1, _⟩ <;> omega))
            have HZ3 := Lib.hid (And.intro hJ3 hO3)
            have HC3 := Lib.hid (HC.out W3)
            rw [hfd2] at HC3
            clear hk3 hJ3 hO3 hx3 hR hy HC q0 q1 q2 q3 q4 q5 q6 q7 q8 q9 q10 q11 q12 q13 q14 q15
            gi_wp2_with (gi_at_call 19; refine (callsIn_wide.2 HC3.out).mono ?_; rintro e w4 ⟨rfl, hb4⟩; have HB4 := Lib.hid hb4; clear hb4)
            refine ⟨fun _ h => (by cases h), ?_⟩
            gi_wp2
            go_roundw
            case rel => exact ⟨k + 1, by omega, by go_num, by rw [HSE.out]; exact HJ.out.below HZ3.out.1 HB4.out, HZ3.out.2.then HB4.out⟩
            case measure => simp [intOf]; omega
          · have HZ := Lib.hid hJx3
            clear hJx3 hR hy
            gi_wp2
            all_goals first | (simp only [undef, Option.some.injEq, reduceCtorEq] at *; done) | skip
            refine ⟨fun _ h => (by cases h), ?_⟩
            gi_wp2
            refine bodyPost_ret (results_none rfl _ _ _) rfl ?_
            exact ⟨⟨_, rfl⟩, .inr ⟨_, HPX.out, HZ.out⟩⟩
    · obtain rfl : k = m := by omega
      have HO := Lib.hid hJs; clear hJs hO
      gi_wp2
      go_end0
      exact ⟨⟨_, rfl⟩, .inl ⟨_, rfl, HO.out⟩⟩
end Go.Proofs.Ytckcliimngeieaa
