/- The document's lists of layer 4, lists compared, and configurations bared. -/
import Derived.Test.YtahhfblgcaadnaaConfCalls
namespace Go.Proofs.Ytahhfblgcaadnaa
open Go.ChangeShapes Go.WideShapes Go.ChangeAt Go.RowKit

theorem getD_ext {l m : List Int} (h : l.length = m.length) (h2 : ∀ i, i < l.length → l.getD i 0 = m.getD i 0) : l = m := by
  apply List.ext_getElem h
  intro i h3 h4
  have := h2 i h3
  simpa [List.getD, h3, h4] using this
set_option maxRecDepth 100000 in
theorem rInts_any (A B : Option Addr) (ca cb : Nat) (l m : List Int) (hl : l.length ≤ 9223372036854775807) (hm : m.length ≤ 9223372036854775807) (w : World)
    (hr : RowIs w A l.length (fun i => .int .i64 (l.getD i 0))) (hq : RowIs w B m.length (fun i => .int .i64 (m.getD i 0))) :
    Calls Try.prog 12 #[.slice A l.length ca, .slice B m.length cb] w fun e w' => e = .returned (.bool (decide (l = m))) ∧ Drew w w' := by
  by_cases hlen : l.length = m.length
  · have hq' : RowIs w B l.length (fun i => .int .i64 (m.getD i 0)) := by rw [hlen]; exact hq
    have HX : Hid ((∀ i, i < l.length → l.getD i 0 = m.getD i 0) → l = m) := Lib.hid (getD_ext hlen)
    rw [← hlen]
    have hne : ((l.length : Int) != l.length) = false := by simp
    have HL := Lib.hid hlen
    clear hq hlen hm
    go_enter Try.func12, Try.ntmps12
    go_wp2
    go_loopw [5] (fun i wr => ∃ k : Nat, i = .int .i64 k ∧ k ≤ l.length ∧ Hid (∀ j, j < k → l.getD j 0 = m.getD j 0) ∧ Drew w wr) (fun i _ => l.length - (intOf i).toNat)
    case atStart => exact ⟨0, rfl, by omega, Lib.hid (fun j hj => by omega), Drew.refl _⟩
    case round =>
      obtain ⟨k, rfl, hk, hs, hd⟩ := hrel
      by_cases hlt : k < l.length
      · obtain ⟨b1, o1, rfl, _, hc1⟩ := hd.row hr (by omega)
        obtain ⟨b2, o2, rfl, _, hc2⟩ := hd.row hq' (by omega)
        have v1 : wr.cell? ⟨b1, o1 + k, none⟩ = some (.int .i64 (l.getD k 0)) := hc1 k hlt
        have v2 : wr.cell? ⟨b2, o2 + k, none⟩ = some (.int .i64 (m.getD k 0)) := hc2 k hlt
        have q0 : (0 : Int) ≤ (k : Int) := by omega
        have q1 : (k : Int) < (l.length : Int) := by omega
        have HX2 : Hid (l.getD k 0 = m.getD k 0 → ∀ j, j < k + 1 → l.getD j 0 = m.getD j 0) := Lib.hid (fun h j hj => by
          rcases Nat.lt_or_ge j k with h3 | h3
          · exact hs.out j h3
          · obtain rfl : j = k := by omega
            exact h)
        have HX3 : Hid (l.getD k 0 ≠ m.getD k 0 → decide (l = m) = false) := Lib.hid (fun h => decide_eq_false (fun e => h (by rw [e])))
        clear hc1 hc2 hr hq' hs
        generalize l.getD k 0 = x at *
        generalize m.getD k 0 = y at *
        by_cases hxy : x = y
        · have d : (x != y) = false := by simpa using hxy
          have HX4 := Lib.hid (HX2.out hxy)
          clear HX2 HX3 hxy
          go_wp2_with fail
          go_quiet (fail)
          go_wp2
          go_roundw
          case rel => exact ⟨k + 1, by go_num, by omega, HX4, hd.more _⟩
          case measure => simp [intOf]; omega
        · have d : (x != y) = true := by simpa using hxy
          have HX4 := Lib.hid (HX3.out hxy)
          clear HX2 HX3 hxy
          go_wp2_with fail
          go_quiet (fail)
          go_wp2
          go_ret
          exact ⟨by rw [HX4.out]; rfl, hd.more _⟩
      · obtain rfl : k = l.length := by omega
        have HX4 := Lib.hid (decide_eq_true (HX.out hs.out))
        clear hs HX
        go_wp2
        go_ret
        exact ⟨by rw [HX4.out]; rfl, hd⟩
  · have hne : ((l.length : Int) != m.length) = true := by rw [bne_iff_ne]; omega
    have HX := Lib.hid (decide_eq_false (p := l = m) (fun e => hlen (by rw [e])))
    clear hlen
    go_enter Try.func12, Try.ntmps12
    go_wp2
    go_ret
    exact ⟨by rw [HX.out]; rfl, Drew.refl _⟩

/-- The document's list: the first k threads whose level is from lo to hi. -/
def rthr (c : Nat → Int) (lo hi : Int) (k : Nat) : List Int := ((List.range k).filter fun t : Nat => decide (0 ≤ lvl c t) && withinB (lvl c t) lo hi).map Int.ofNat
theorem rthr_succ (c : Nat → Int) (lo hi : Int) (k : Nat) : rthr c lo hi (k + 1) = rthr c lo hi k ++ if (decide (0 ≤ lvl c k) && withinB (lvl c k) lo hi) = true then [(k : Int)] else [] := by
  unfold rthr
  rw [List.range_succ, List.filter_append, List.map_append]
  congr 1
  by_cases h : (decide (0 ≤ lvl c k) && withinB (lvl c k) lo hi) = true
  · rw [if_pos h]; simp [h]
  · rw [if_neg h]; simp [h]
theorem rthr_len (c : Nat → Int) (lo hi : Int) (k : Nat) : (rthr c lo hi k).length ≤ k := by
  unfold rthr
  rw [List.length_map]
  exact Nat.le_trans (List.length_filter_le ..) (by simp)
theorem rthr_all (c : Nat → Int) (lo hi : Int) : rthr c lo hi 8 = thrs c lo hi := by
  unfold thrs
  by_cases hm : mayB c = true
  · rw [if_pos hm]
    obtain ⟨_, ⟨h1, h2⟩, h3, _⟩ := may_bounds hm
    have key : ∀ k : Nat, k ≤ 8 → rthr c lo hi k = thr c lo hi (min k (c 1).toNat) := by
      intro k
      induction k with
      | zero => intro _; rfl
      | succ k ih =>
        intro hk
        rw [rthr_succ, ih (by omega)]
        by_cases hlt : (k : Int) < c 1
        · have e1 : lvl c k = c (2 + k) := lvl_yes hm (by omega) hlt
          have e2 : 0 ≤ c (2 + k) := by
            have := h3 k (by omega)
            unfold okT at this
            rw [if_neg (by omega)] at this
            simp only [Bool.and_eq_true, decide_eq_true_eq] at this
            exact this.1
          rw [show min k (c 1).toNat = k by omega, show min (k + 1) (c 1).toNat = k + 1 by omega, thr_succ, e1, decide_eq_true e2, Bool.true_and]
        · have e1 : lvl c k = -1 := lvl_no (fun h => hlt h.2.2)
          rw [show min (k + 1) (c 1).toNat = min k (c 1).toNat by omega, e1]
          simp
    rw [key 8 (by omega), show min 8 (c 1).toNat = (c 1).toNat by omega]
  · rw [if_neg hm]
    have : ∀ t : Nat, (decide (0 ≤ lvl c t) && withinB (lvl c t) lo hi) = false := fun t => by
      rw [lvl_no (c := c) (fun h => hm h.1)]; rfl
    unfold rthr
    simp [this]

set_option maxRecDepth 100000 in
set_option maxHeartbeats 1000000 in
theorem rAt_any (c : Nat → Int) (hc : Ok64 c) (lo hi : Int) (w : World) :
    Calls Try.prog 14 #[.agg (rowOf 14 (ints c)), .int .i64 lo, .int .i64 hi] w (GivesInts w (thrs c lo hi)) := by
  obtain ⟨i0, hi0, hz0, hz1, hz2⟩ := info_parts int_info
  have f14 := fold14 c
  have hT : Hid (rthr c lo hi 8 = thrs c lo hi) := Lib.hid (rthr_all c lo hi)
  go_enter Try.func14, Try.ntmps14
  go_upto_region 1 with fail
  generalize hW : World.alloc _ _ = W
  have hr : Row W w.heap.size 24 14 (ints c) := by rw [← hW]; exact Row.new _ _ _ _ _ rfl
  have hB : Below w.heap.size w W := by rw [← hW]; exact (Below.refl _ _).alloc (Nat.le_refl _) _
  clear hW
  generalize hz : w.heap.size = a1 at *
  have HZ := Lib.hid hz; clear hz
  obtain ⟨u0, u1, u2, u3, u4, u5, u6, u7, u8, u9, u10, u11, u12, u13⟩ := conf_cells hr
  clear u0 u1 u2 u3 u4 u5 u6 u7 u8 u9 u10 u11 u12 u13
  have hlt1 := hr.lt
  go_wp2_with fail
  go_loopw [7, 8] (fun v t wr => ∃ k : Nat, t = .int .i64 k ∧ k ≤ 8 ∧ wr.ownsRow W.heap.size 3 1 v (rthr c lo hi k).length ((rthr c lo hi k).map (Value.int .i64)) ∧ Below W.heap.size W wr) (fun _ t _ => 8 - (intOf t).toNat)
  case atStart => exact ⟨0, rfl, by omega, World.ownsRow_nil _ _ _ _, Below.refl _ _⟩
  case round =>
    obtain ⟨k, rfl, hk, hown, hbr⟩ := hrel
    have hrr := hr.keep hbr
    have hBr := below_on hB (by have := HZ.out; have := hB.size; omega) hbr
    by_cases hlt : k < 8
    · obtain ⟨v0, v1, v2, v3, v4, v5, v6, v7, v8, v9, v10, v11, v12, v13⟩ := conf_cells hrr
      have hs := rthr_succ c lo hi k
      have hl := rthr_len c lo hi k
      have cL := Lib.hid (rLevel_any c hc k (by omega))
      have b := lvl_bounds c k
      go_wp2_with fail
      refine (cL.out _).mono ?_; rintro e wl ⟨rfl, hbl⟩
      have hbr2 := below_on hbr (Nat.le_refl _) hbl
      have hown2 : wl.ownsRow W.heap.size 3 1 _ (rthr c lo hi k).length ((rthr c lo hi k).map (Value.int .i64)) := hown.kept (row := none) ⟨hbl.os, hbl.tape, hbl.output, hbl.size, fun i hi _ => hbl.block i hi⟩ (by
        rcases hv : Value.ownBlock _ with _ | g
        · exact .inl rfl
        · exact .inr (by simp))
      clear v0 v1 v2 v3 v4 v5 v6 v7 v8 v9 v10 v11 v12 v13 f14 hown hbr hBr hrr cL hbl
      generalize lvl c k = n at *
      have HS := Lib.hid hs
      clear hs b
      have HW : Hid (withinB n lo hi = (decide (lo ≤ n) && decide (n ≤ hi))) := Lib.hid rfl
      by_cases g : 0 ≤ n ∧ lo ≤ n ∧ n ≤ hi
      · obtain ⟨g1, g2, g3⟩ := g
        have HS2 := HS.out
        rw [HW.out, decide_eq_true g1, decide_eq_true g2, decide_eq_true g3, if_pos (show (true && (true && true)) = true from rfl)] at HS2
        have HS3 := Lib.hid HS2
        clear HS HS2 HW
        go_wp2_with (at_builtin; refine wpList_append_own _ rfl _ _ 30 rfl W.heap.size 3 i0 (.int .i64 0) 1 8 Try.underlying30 hi0 hz0 hz1 hz2 rfl (by decide) _ _ _ rfl (hown2.alloc _) ⟨wl.heap.size, 0, none⟩ 1 1 [.int .i64 (k : Int)] rfl rfl ?c1 ?c2 ?c3 ?c4 ?c5 ?_)
        case c1 =>
          intro j u hj
          match j, hj with
          | 0, hj => simp at hj; subst hj; simp [Addr.add]
        case c2 => intro u hu; simp at hu; subst hu; rfl
        case c3 => unfold maxLen; omega
        case c4 => omega
        case c5 => have := hbr2.size; simp; omega
        intro v' w1 hown' hgrow _
        have hbn : Below W.heap.size W w1 := (hbr2.alloc hbr2.size _).grown hgrow (by have := hbr2.size; simp; omega) (fun g hg => (hown2.lt g hg).1)
        clear hgrow hown2
        go_wp2_with fail
        go_roundw
        case rel => exact ⟨k + 1, by go_num, by omega, by rw [HS3.out, List.length_append, List.map_append]; exact hown', hbn⟩
        case measure => simp [intOf]; omega
      · have HS2 := HS.out
        rw [HW.out, if_neg (by simp; omega), List.append_nil] at HS2
        have HS3 := Lib.hid HS2
        clear HS HS2 HW
        by_cases g1 : 0 ≤ n
        · by_cases g2 : lo ≤ n
          · have g3 : ¬ n ≤ hi := fun h => g ⟨g1, g2, h⟩
            clear g
            go_wp2_with fail
            go_roundw
            case rel => exact ⟨k + 1, by go_num, by omega, by rw [HS3.out]; exact hown2, hbr2⟩
            case measure => simp [intOf]; omega
          · clear g
            go_wp2_with fail
            go_roundw
            case rel => exact ⟨k + 1, by go_num, by omega, by rw [HS3.out]; exact hown2, hbr2⟩
            case measure => simp [intOf]; omega
        · clear g
          go_wp2_with fail
          go_roundw
          case rel => exact ⟨k + 1, by go_num, by omega, by rw [HS3.out]; exact hown2, hbr2⟩
          case measure => simp [intOf]; omega
    · obtain rfl : k = 8 := by omega
      obtain ⟨A, cap, rfl, hrow⟩ := own_row hown
      clear hown
      go_wp2_with fail
      go_ret
      exact ⟨A, cap, by rw [← hT.out]; rfl, by rw [← hT.out]; exact hrow, by rw [HZ.out]; exact hBr⟩
end Go.Proofs.Ytahhfblgcaadnaa
