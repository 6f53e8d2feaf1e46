/- Whether a call may be answered so: the document's answer of layer 9, of answers with a code. -/
import Derived.Test.YthhheeocanbkiaaDoorRef9Refs
namespace Go.Proofs.YthhheeocanbkiaaDoor
open Go.ChangeShapes Go.WideShapes Go.ChangeAt Go.RowKit
theorem neq_cells' (e a b h n k e' a' b' h' n' k' : Int) (w : World) : (binOp .neq 37 (.agg #[.int .i64 e, .int .u64 a, .int .u64 b, .int .u64 h, .int .i64 n, .int .i64 k]) (.agg #[.int .i64 e', .int .u64 a', .int .u64 b', .int .u64 h', .int .i64 n', .int .i64 k'])).run Tryd.prog w = .ok (.bool (!sameA ⟨e, a, b, h, n, k⟩ ⟨e', a', b', h', n', k'⟩)) w :=
  neq_ans w ⟨e, a, b, h, n, k⟩ ⟨e', a', b', h', n', k'⟩
theorem any_not {L : List Int} {e : Int} (h : ∀ j, j < L.length → (L.getD j 0 == e) = false) : L.contains e = false := by
  rw [List.contains_eq_any_beq, List.any_eq_false]
  intro x hx
  obtain ⟨j, hj, rfl⟩ := List.mem_iff_getElem.1 hx
  have := h j hj
  rw [List.getD_eq_getElem?_getD, List.getElem?_eq_getElem hj, Option.getD_some] at this
  rw [Bool.not_eq_true]
  exact beq_eq_false_iff_ne.2 (Ne.symm (beq_eq_false_iff_ne.1 this))
theorem any_yes {L : List Int} {e : Int} {j : Nat} (hj : j < L.length) (h : (L.getD j 0 == e) = true) : L.contains e = true := by
  rw [List.getD_eq_getElem?_getD, List.getElem?_eq_getElem hj, Option.getD_some] at h
  obtain rfl := eq_of_beq h
  simp
set_option maxHeartbeats 4000000 in
theorem r9Not (op l key pa pb hd r e a b h n k : Int) (he : e ≠ 0) (hm : mayC op l r = true) (w : World) : Calls Tryd.prog 16 #[(.agg #[.int .i64 op, .int .i64 l, .int .i64 key, .int .u64 pa, .int .u64 pb, .int .u64 hd, .int .i64 r]), (.agg #[.int .i64 e, .int .u64 a, .int .u64 b, .int .u64 h, .int .i64 n, .int .i64 k])] w fun t w' => t = .returned (.bool (badT op e && sameA ⟨e, a, b, h, n, k⟩ ⟨e, 0, 0, 0, 0, 0⟩)) ∧ Below w.heap.size w w' := by
  have C1 := Lib.hid (fun W => (r9May_any op l key pa pb hd r W).mono (fun t w' hh => (show t = .returned (.bool true) ∧ Below W.heap.size W w' from hm ▸ hh)))
  have hq : (e == 0) = false := by simp [he]
  have C2 := Lib.hid (fun W => refs_any op (mayC_ops hm).1 (mayC_ops hm).2 W)
  have HN := Lib.hid (refs_len op (mayC_ops hm).1 (mayC_ops hm).2)
  have hE := fun W => neq_cells' e a b h n k e 0 0 0 0 0 W
  clear hm
  cases hs : sameA ⟨e, a, b, h, n, k⟩ ⟨e, 0, 0, 0, 0, 0⟩
  · rw [hs] at hE
    have H := Lib.hid (Bool.and_false (badT op e))
    clear hs C2 HN he
    generalize badT op e = F at *
    go_enter Tryd.func16, Tryd.ntmps16
    go_upto_region 1 with fail
    generalize hW : World.alloc (World.alloc _ _) _ = W
    obtain ⟨hB, hcl, han⟩ := two_new _ _ _ _ _ _ _ ⟨_, _, _, _, _, _⟩ _ _ w W hW
    clear hW
    generalize hz : w.heap.size = a1 at *
    have HZ := Lib.hid hz; clear hz
    have HB := Lib.hid hB; have HC := Lib.hid hcl; have HA := Lib.hid han; clear hB
    obtain ⟨l0, u0, u1, u2, u3, u4, u5, u6⟩ := hcl
    obtain ⟨l1, v0, v1, v2, v3, v4, v5⟩ := han
    simp only at v0 v1 v2 v3 v4 v5
    go_wp2_with fail
    refine (C1.out _).mono ?_
    rintro t w1 ⟨rfl, hb1⟩
    have hB1 := below_on HB.out (Nat.le_of_eq HZ.out.symm) hb1
    have hcl := HC.out.keep hb1
    have han := HA.out.keep hb1
    clear hb1 HB HC HA u0 u1 u2 u3 u4 u5 u6 v0 v1 v2 v3 v4 v5 l0 l1 C1 W
    have HB := Lib.hid hB1
    have HC := Lib.hid hcl; have HA := Lib.hid han
    have hsz := hB1.size
    clear hB1
    obtain ⟨l0, u0, u1, u2, u3, u4, u5, u6⟩ := hcl
    obtain ⟨l1, v0, v1, v2, v3, v4, v5⟩ := han
    simp only at v0 v1 v2 v3 v4 v5
    go_wp2_with fail
    go_ret
    exact ⟨by rw [H.out]; rfl, by rw [HZ.out]; exact below_on HB.out (Nat.le_of_eq HZ.out.symm) ((Below.refl _ _).alloc (Nat.le_refl _) _)⟩
  · rw [hs] at hE
    have H : Hid ((badT op e && true) = ((refs op).contains e || e == 12)) := Lib.hid (Bool.and_true (badT op e))
    clear hs he
    generalize (badT op e && true) = F at *
    go_enter Tryd.func16, Tryd.ntmps16
    go_upto_region 1 with fail
    generalize hW : World.alloc (World.alloc _ _) _ = W
    obtain ⟨hB, hcl, han⟩ := two_new _ _ _ _ _ _ _ ⟨_, _, _, _, _, _⟩ _ _ w W hW
    clear hW
    generalize hz : w.heap.size = a1 at *
    have HZ := Lib.hid hz; clear hz
    have HB := Lib.hid hB; have HC := Lib.hid hcl; have HA := Lib.hid han; clear hB
    obtain ⟨l0, u0, u1, u2, u3, u4, u5, u6⟩ := hcl
    obtain ⟨l1, v0, v1, v2, v3, v4, v5⟩ := han
    simp only at v0 v1 v2 v3 v4 v5
    go_wp2_with fail
    refine (C1.out _).mono ?_
    rintro t w1 ⟨rfl, hb1⟩
    have hB1 := below_on HB.out (Nat.le_of_eq HZ.out.symm) hb1
    have hcl := HC.out.keep hb1
    have han := HA.out.keep hb1
    clear hb1 HB HC HA u0 u1 u2 u3 u4 u5 u6 v0 v1 v2 v3 v4 v5 l0 l1 C1 W
    have HB := Lib.hid hB1
    have HC := Lib.hid hcl; have HA := Lib.hid han
    have hsz := hB1.size
    clear hB1
    obtain ⟨l0, u0, u1, u2, u3, u4, u5, u6⟩ := hcl
    obtain ⟨l1, v0, v1, v2, v3, v4, v5⟩ := han
    simp only at v0 v1 v2 v3 v4 v5
    go_wp2_with fail
    refine (C2.out _).mono ?_
    rintro t w2 ⟨A, cap, rfl, hrow, hb2⟩
    generalize hL : refs op = L at *
    have hall := ((Below.refl w1.heap.size w1).alloc (Nat.le_refl _) (.cells #[.int .i64 e, .int .u64 a, .int .u64 b, .int .u64 h, .int .i64 n, .int .i64 k] 37)).trans (hb2.mono (by simp))
    have hB2 := below_on HB.out (Nat.le_of_eq HZ.out.symm) hall
    have hcl := HC.out.keep hall
    have han := HA.out.keep hall
    have hln := HN.out
    clear hL HN HB HC HA u0 u1 u2 u3 u4 u5 u6 v0 v1 v2 v3 v4 v5 l0 l1 hb2 hsz hall C2 hE
    generalize w1.heap.size = a3 at *
    have HB := Lib.hid hB2; have HR := Lib.hid hrow
    clear hB2 hrow
    obtain ⟨l0, u0, u1, u2, u3, u4, u5, u6⟩ := hcl
    obtain ⟨l1, v0, v1, v2, v3, v4, v5⟩ := han
    simp only at v0 v1 v2 v3 v4 v5
    go_wp2_with fail
    go_loopw [7] (fun i wr => ∃ j : Nat, i = .int .i64 j ∧ j ≤ L.length ∧ Hid (∀ i, i < j → (L.getD i 0 == e) = false) ∧ Drew w2 wr) (fun i _ => L.length - (intOf i).toNat)
    case atStart => exact ⟨0, rfl, by omega, Lib.hid (fun j hj => by omega), Drew.refl _⟩
    case round =>
      obtain ⟨j, rfl, hj, hs, hd⟩ := hrel
      have hBr := HB.out.trans (hd.below _)
      by_cases hlt : j < L.length
      · obtain ⟨g, off, rfl, hg, hx⟩ := (hd.row HR.out) (by omega)
        have q0 : (0 : Int) ≤ (j : Int) := by omega
        have q1 : (j : Int) < (L.length : Int) := by omega
        have q2 : (j : Int).toNat = j := by omega
        have x1 : wr.cell? ⟨g, off + j, none⟩ = some (.int .i64 (L.getD j 0)) := hx j hlt
        have y0 : wr.cell? ⟨a1, 0, none⟩ = some (.int .i64 op) := by rw [hd.cell]; exact u0
        have z0 : wr.cell? ⟨a1 + 1, 0, none⟩ = some (.int .i64 e) := by rw [hd.cell]; exact v0
        have HX : Hid ((L.getD j 0 == e) = false → ∀ i, i < j + 1 → (L.getD i 0 == e) = false) := Lib.hid (fun h i hi => by
          rcases Nat.lt_or_ge i j with h3 | h3
          · exact hs.out i h3
          · obtain rfl : i = j := by omega
            exact h)
        have HY : Hid ((L.getD j 0 == e) = true → L.contains e = true) := Lib.hid (any_yes hlt)
        clear hs hx HR
        generalize L.getD j 0 = y at *
        cases hb : (y == e)
        · have HX2 := Lib.hid (HX.out hb)
          clear HX HY
          go_wp2_with fail
          go_quiet (fail)
          go_wp2
          go_roundw
          case rel => exact ⟨j + 1, by go_num, by omega, HX2, hd.more _⟩
          case measure => simp [intOf]; omega
        · have HX2 := Lib.hid (HY.out hb)
          clear HX HY
          go_wp2_with fail
          go_quiet (fail)
          go_wp2
          go_ret
          exact ⟨by rw [H.out, HX2.out]; rfl, by rw [HZ.out]; exact below_drewN hBr _⟩
      · obtain rfl : j = L.length := by omega
        have HX2 := Lib.hid (any_not hs.out)
        have z0 : wr.cell? ⟨a1 + 1, 0, none⟩ = some (.int .i64 e) := by rw [hd.cell]; exact v0
        clear hs HR
        go_wp2
        go_ret
        exact ⟨by rw [H.out, HX2.out]; rfl, by rw [HZ.out]; exact hBr⟩
end Go.Proofs.YthhheeocanbkiaaDoor
