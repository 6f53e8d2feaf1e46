/- Lists of threads, as package conf and the document's answer give them. -/
import Derived.Test.YtodomchanaaonaaConfMay
import Derived.Test.YtodomchanaaonaaRef4
import Derived.OwnWalk
namespace Go.Proofs.Ytodomchanaaonaa
open Go.ChangeShapes Go.WideShapes Go.ChangeAt Go.RowKit

/-- What is told is a slice of these numbers; nothing that was there has turned. -/
def GivesInts (w : World) (l : List Int) (e : Ending) (w' : World) : Prop := ∃ A cap, e = .returned (.slice A l.length cap) ∧ RowIs w' A l.length (fun i => .int .i64 (l.getD i 0)) ∧ Below w.heap.size w w'
theorem own_row {w : World} {base : Nat} {e : TypeId} {v : Value} {l : List Int} (h : w.ownsRow base e 1 v l.length (l.map (Value.int .i64))) : ∃ A cap, v = .slice A l.length cap ∧ RowIs w A l.length (fun i => .int .i64 (l.getD i 0)) := by
  rcases h.2 with ⟨rfl, h0⟩ | ⟨g, cap, cur, rfl, hb, hh, _⟩
  · rw [h0]
    exact ⟨none, 0, rfl, RowIs.none_ _ _ _⟩
  · refine ⟨_, cap, rfl, fun hn => ⟨g, 0, rfl, ?_, fun i hi => ?_⟩⟩
    · rcases Nat.lt_or_ge g w.heap.size with hlt | hge
      · exact hlt
      · rw [Array.getElem?_eq_none hge] at hh; cases hh
    · rw [Nat.zero_add, h.cellAt i (by omega)]
      simp [List.getD, hi]

/-- The first k threads whose number in the array is from lo to hi. -/
def thr (c : Nat → Int) (lo hi : Int) (k : Nat) : List Int := ((List.range k).filter fun t => withinB (c (2 + t)) lo hi).map Int.ofNat
theorem thr_succ (c : Nat → Int) (lo hi : Int) (k : Nat) : thr c lo hi (k + 1) = thr c lo hi k ++ if withinB (c (2 + k)) lo hi = true then [(k : Int)] else [] := by
  unfold thr
  rw [List.range_succ, List.filter_append, List.map_append]
  congr 1
  by_cases h : withinB (c (2 + k)) lo hi = true
  · rw [if_pos h]; simp [h]
  · rw [if_neg h]; simp [h]
theorem thr_len (c : Nat → Int) (lo hi : Int) (k : Nat) : (thr c lo hi k).length ≤ k := by
  unfold thr
  rw [List.length_map]
  exact Nat.le_trans (List.length_filter_le ..) (by simp)
def thrs (c : Nat → Int) (lo hi : Int) : List Int := if mayB c = true then thr c lo hi (c 1).toNat else []

theorem int_info : (Try.prog.info? 3).map (fun i => (i.zero, i.size, i.bytes)) = some (some (.int .i64 0), 1, 8) := by kernel_rfl

set_option maxRecDepth 100000 in
set_option maxHeartbeats 1000000 in
theorem cThreads_any (c : Nat → Int) (hc : Ok64 c) (lo hi : Int) (w : World) :
    Calls Try.prog 25 #[.agg (rowOf 14 (ints c)), .int .i64 lo, .int .i64 hi] w (GivesInts w (thrs c lo hi)) := by
  obtain ⟨i0, hi0, hz0, hz1, hz2⟩ := info_parts int_info
  have f14 := fold14 c
  have cM := Lib.hid (cMay_any c hc)
  have hT : Hid (thrs c lo hi = if mayB c = true then thr c lo hi (c 1).toNat else []) := Lib.hid rfl
  go_enter Try.func25, Try.ntmps25
  go_upto_region 1 with fail
  generalize hW : World.alloc _ _ = W
  have hr : Row W w.heap.size 41 14 (ints c) := by rw [← hW]; exact Row.new _ _ _ _ _ rfl
  have hB : Below w.heap.size w W := by rw [← hW]; exact (Below.refl _ _).alloc (Nat.le_refl _) _
  clear hW
  generalize hz : w.heap.size = a1 at *
  have HZ := Lib.hid hz; clear hz
  obtain ⟨u0, u1, u2, u3, u4, u5, u6, u7, u8, u9, u10, u11, u12, u13⟩ := conf_cells hr
  go_wp2_with fail
  refine (cM.out _).mono ?_; rintro e W1 ⟨rfl, hb1⟩
  have hr1 := hr.keep hb1
  have hB1 := below_on hB (Nat.le_of_eq HZ.out.symm) hb1
  clear u0 u1 u2 u3 u4 u5 u6 u7 u8 u9 u10 u11 u12 u13 f14 cM hb1 hr hB
  obtain ⟨-, u1, -⟩ := conf_cells hr1
  cases hm : mayB c
  · rw [hm] at hT
    go_wp2_with fail
    go_ret
    exact ⟨none, 0, by rw [hT.out]; rfl, by rw [hT.out]; exact RowIs.none_ _ _ _, by rw [HZ.out]; exact hB1⟩
  · obtain ⟨-, hb1, -⟩ := may_bounds hm
    rw [hm] at hT
    have hlt1 := hr1.lt
    go_wp2_with fail
    go_loopw [7, 14] (fun v t wr => ∃ k : Nat, t = .int .i64 k ∧ (k : Int) ≤ c 1 ∧ wr.ownsRow W1.heap.size 3 1 v (thr c lo hi k).length ((thr c lo hi k).map (Value.int .i64)) ∧ Below W1.heap.size W1 wr) (fun _ t _ => 8 - (intOf t).toNat)
    case atStart => exact ⟨0, rfl, by omega, World.ownsRow_nil _ _ _ _, Below.refl _ _⟩
    case round =>
      obtain ⟨k, rfl, hk, hown, hbr⟩ := hrel
      have hrr := hr1.keep hbr
      have hBr := below_on hB1 (by have := HZ.out; have := hB1.size; omega) hbr
      clear u1
      by_cases hlt : (k : Int) < c 1
      · have v1 : wr.cell? ⟨a1, 2 + k, none⟩ = some (.int .i64 (c (2 + k))) := hrr.cell (i := 2 + k) (by omega)
        have q0 : (0 : Int) ≤ (k : Int) := by omega
        have q1 : (k : Int) < 8 := by omega
        have hs := thr_succ c lo hi k
        have hl := thr_len c lo hi k
        cases hw : withinB (c (2 + k)) lo hi
        · rw [hw, if_neg (by simp), List.append_nil] at hs
          have HS := Lib.hid hs; clear hs
          have HW := Lib.hid hw
          go_wp2_with ((go_at_call 29; refine (cWithin_any _ _ _ _).mono ?_; rintro e w' ⟨rfl, rfl⟩); rw [HW.out])
          go_roundw
          case rel => exact ⟨k + 1, by go_num, by omega, by rw [HS.out]; exact hown, hbr⟩
          case measure => simp [intOf]; omega
        · rw [hw, if_pos rfl] at hs
          have HS := Lib.hid hs; clear hs
          have HW := Lib.hid hw
          go_wp2_with (first | ((go_at_call 29; refine (cWithin_any _ _ _ _).mono ?_; rintro e w' ⟨rfl, rfl⟩); rw [HW.out]) | (at_builtin; refine wpList_append_own _ rfl _ _ 52 rfl W1.heap.size 3 i0 (.int .i64 0) 1 8 Try.underlying52 hi0 hz0 hz1 hz2 rfl (by decide) _ _ _ rfl (hown.alloc _) ⟨wr.heap.size, 0, none⟩ 1 1 [.int .i64 (k : Int)] rfl rfl ?c1 ?c2 ?c3 ?c4 ?c5 ?_))
          case c1 =>
            intro j u hj
            match j, hj with
            | 0, hj => simp at hj; subst hj; simp [Addr.add]
          case c2 => intro u hu; simp at hu; subst hu; rfl
          case c3 => unfold maxLen; omega
          case c4 => omega
          case c5 => have := hbr.size; simp; omega
          intro v' w1 hown' hgrow _
          have hbn : Below W1.heap.size W1 w1 := (hbr.alloc hbr.size _).grown hgrow (by have := hbr.size; simp; omega) (fun g hg => (hown.lt g hg).1)
          clear hgrow hown
          go_wp2_with fail
          go_roundw
          case rel => exact ⟨k + 1, by go_num, by omega, by rw [HS.out, List.length_append, List.map_append]; exact hown', hbn⟩
          case measure => simp [intOf]; omega
      · obtain ⟨A, cap, rfl, hrow⟩ := own_row hown
        have hk1 : (c 1).toNat = k := by omega
        have hT' := hT.out
        rw [if_pos trivial, hk1] at hT'
        have HT := Lib.hid hT'; clear hT' hT hk1
        go_wp2_with fail
        go_ret
        exact ⟨A, cap, by rw [HT.out]; rfl, by rw [HT.out]; exact hrow, by rw [HZ.out]; exact hBr⟩
end Go.Proofs.Ytodomchanaaonaa
