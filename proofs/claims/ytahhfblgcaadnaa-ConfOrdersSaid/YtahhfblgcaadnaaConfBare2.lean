/- Configurations bared, as package conf and the document's answer give them; the chapter's example. -/
import Derived.Test.YtahhfblgcaadnaaConfBare
namespace Go.Proofs.Ytahhfblgcaadnaa
open Go.ChangeShapes Go.WideShapes Go.ChangeAt Go.RowKit

def bareTo (c : Nat → Int) (l : Int) (k i : Nat) : Int := if 2 ≤ i ∧ i < 2 + k ∧ l < c i then c 0 - 1 else c i
def bare (c : Nat → Int) (l : Int) : Nat → Int := if mayB c = true then bareTo c l (c 1).toNat else c
theorem bareTo_zero (c : Nat → Int) (l : Int) (i : Nat) : bareTo c l 0 i = c i := if_neg (by omega)
theorem bareTo_at (c : Nat → Int) (l : Int) (k : Nat) : bareTo c l k (2 + k) = c (2 + k) := if_neg (by omega)
theorem bareTo_head (c : Nat → Int) (l : Int) (k : Nat) : bareTo c l k 0 = c 0 := if_neg (by omega)
theorem bareTo_no (c : Nat → Int) (l : Int) (k : Nat) (h : ¬ l < c (2 + k)) (i : Nat) : bareTo c l (k + 1) i = bareTo c l k i := by
  unfold bareTo
  by_cases e : i = 2 + k
  · subst e; rw [if_neg (fun h2 => h h2.2.2), if_neg (fun h2 => h h2.2.2)]
  · by_cases h2 : 2 ≤ i ∧ i < 2 + k ∧ l < c i
    · rw [if_pos h2, if_pos ⟨h2.1, by omega, h2.2.2⟩]
    · rw [if_neg h2, if_neg (fun h3 => h2 ⟨h3.1, by omega, h3.2.2⟩)]
theorem bareTo_yes (c : Nat → Int) (l : Int) (k : Nat) (h : l < c (2 + k)) (i : Nat) : (if i = 2 + k then Value.int .i64 (c 0 - 1) else ints (bareTo c l k) i) = ints (bareTo c l (k + 1)) i := by
  unfold ints bareTo
  by_cases e : i = 2 + k
  · subst e; rw [if_pos rfl, if_pos ⟨by omega, by omega, h⟩]
  · rw [if_neg e]
    by_cases h2 : 2 ≤ i ∧ i < 2 + k ∧ l < c i
    · rw [if_pos h2, if_pos ⟨h2.1, by omega, h2.2.2⟩]
    · rw [if_neg h2, if_neg (fun h3 => h2 ⟨h3.1, by omega, h3.2.2⟩)]

theorem two_blocks (w : World) (t1 t2 : TypeId) (n1 n2 : Nat) (f1 f2 : Nat → Value) : ∀ W, (w.alloc (.cells (rowOf n1 f1) t1)).alloc (.cells (rowOf n2 f2) t2) = W →
    Below w.heap.size w W ∧ Row W w.heap.size t1 n1 f1 ∧ Row W (w.heap.size + 1) t2 n2 f2 := by
  rintro W rfl
  refine ⟨((Below.refl _ _).alloc (Nat.le_refl _) _).alloc (by simp) _, (Row.new w _ _ _ _ rfl).alloc _, ?_⟩
  have h := Row.new (w.alloc (.cells (rowOf n1 f1) t1)) _ t2 f2 n2 rfl
  simpa using h

set_option maxRecDepth 100000 in
set_option maxHeartbeats 1000000 in
theorem cBare_any (c : Nat → Int) (hc : Ok64 c) (l : Int) (hl : -9223372036854775808 ≤ l ∧ l ≤ 9223372036854775807) (w : World) :
    Calls Try.prog 18 #[.agg (rowOf 14 (ints c)), .int .i64 l] w fun e w' => e = .returned (.agg (rowOf 14 (ints (bare c l)))) ∧ Below w.heap.size w w' := by
  have f14 := fold14 c
  have cM := Lib.hid (cMay_any c hc)
  have hT : Hid (bare c l = if mayB c = true then bareTo c l (c 1).toNat else c) := Lib.hid rfl
  go_enter Try.func18, Try.ntmps18
  go_upto_region 1 with fail
  generalize hW : World.alloc _ _ = W
  obtain ⟨hB, hr, hq⟩ := two_blocks w 24 24 14 14 (ints c) (ints fun _ => 0) W hW
  clear hW
  generalize hz : w.heap.size = a1 at *
  have HZ := Lib.hid hz; clear hz
  obtain ⟨u0, u1, u2, u3, u4, u5, u6, u7, u8, u9, u10, u11, u12, u13⟩ := conf_cells hr
  go_wp2_with fail
  refine (cM.out _).mono ?_; rintro e W1 ⟨rfl, hb1⟩
  have hr1 := hr.keep hb1
  have hq1 := hq.keep hb1
  have hB1 := below_on hB (Nat.le_of_eq HZ.out.symm) hb1
  clear u0 u1 u2 u3 u4 u5 u6 u7 u8 u9 u10 u11 u12 u13
  clear f14 cM hb1 hr hq hB
  cases hm : mayB c
  · have hT' := hT.out
    rw [hm, if_neg (by simp)] at hT'
    have HT := Lib.hid hT'; clear hT' hT hm
    go_wp2_with (first
      | (refine wpList_load_row rfl 24 _ rfl a1 rfl 24 (rowOf 14 (ints c)) (0, 0) _ hr1 Try.underlying24 rfl (by kernel_rfl) ?_)
      | (refine wpList_store_row rfl 24 _ _ rfl (a1 + 1) (rowOf 14 (ints c)) rfl rfl 24 (rowOf 14 (ints fun _ => 0)) hq1 (by kernel_rfl) rfl (ints_one _ _) ?_))
    exact bodyPost_ret (results_cell_row (p := 4) (ty := 24) (by kernel_rfl) _ _ (a1 + 1) 24 (rowOf 14 (ints c)) (0, 0) _ rfl (hq1.setRow_ _) Try.underlying24 rfl (by kernel_rfl)) rfl ⟨by rw [HT.out], by rw [HZ.out]; exact below_setRow_ hB1 (by omega) _⟩
  · obtain ⟨b0, b1, -⟩ := may_bounds hm
    have hT' := hT.out
    rw [hm, if_pos rfl] at hT'
    have HT := Lib.hid hT'; clear hT' hT hm
    have hlt1 := hr1.lt
    have hlt2 := hq1.lt
    obtain ⟨-, u1, -⟩ := conf_cells hr1
    go_wp2_with fail
    go_loopw [12] (fun t wr => ∃ k : Nat, t = .int .i64 k ∧ (k : Int) ≤ c 1 ∧ Row wr a1 24 14 (ints (bareTo c l k)) ∧ Row wr (a1 + 1) 24 14 (ints fun _ => 0) ∧ Below a1 w wr) (fun t _ => 8 - (intOf t).toNat)
    case atStart => exact ⟨0, rfl, by omega, hr1.congr (fun i _ => by unfold ints; rw [bareTo_zero]), hq1, hB1⟩
    case round =>
      obtain ⟨k, rfl, hk, hrr, hqr, hBr⟩ := hrel
      clear u1
      by_cases hlt : (k : Int) < c 1
      · have v0 : wr.cell? ⟨a1, 0, none⟩ = some (.int .i64 (c 0)) := by rw [hrr.cell (i := 0) (by omega)]; unfold ints; rw [bareTo_head]
        have v1 : wr.cell? ⟨a1, 2 + k, none⟩ = some (.int .i64 (c (2 + k))) := by rw [hrr.cell (i := 2 + k) (by omega)]; unfold ints; rw [bareTo_at]
        have v2 : wr.frozen? ⟨a1, 2 + k, none⟩ = false := hrr.frozen _
        have q0 : (0 : Int) ≤ (k : Int) := by omega
        have q1 : (k : Int) < 8 := by omega
        have Hno := Lib.hid (bareTo_no c l k)
        have Hyes := Lib.hid (bareTo_yes c l k)
        have bk := hc (2 + k)
        have hrr' : Row wr a1 24 14 (ints (bareTo c l k)) := hrr
        generalize hx : c (2 + k) = x at *
        clear hx
        by_cases hg : l < x
        · have hyes := Lib.hid (Hyes.out hg)
          clear Hno Hyes
          go_wp2_with fail
          go_roundw
          case rel => exact ⟨k + 1, by go_num, by omega, (hrr.set_ (2 + k) (.int .i64 (c 0 - 1))).congr fun i _ => hyes.out i, hqr.far (by show _ ≠ _; simp) _, hBr.setCell (by simp) _⟩
          case measure => simp [intOf]; omega
        · have hno := Lib.hid (Hno.out hg)
          clear Hno Hyes
          go_wp2_with fail
          go_roundw
          case rel => exact ⟨k + 1, by go_num, by omega, hrr.congr fun i _ => by unfold ints; rw [hno.out], hqr, hBr⟩
          case measure => simp [intOf]; omega
      · have hk1 : (c 1).toNat = k := by omega
        have hT' := HT.out
        rw [hk1] at hT'
        have HT2 := Lib.hid hT'; clear hT' HT hk1
        go_wp2_with (first
          | (refine wpList_load_row rfl 24 _ rfl a1 rfl 24 (rowOf 14 (ints (bareTo c l k))) (0, 0) _ hrr Try.underlying24 rfl (by kernel_rfl) ?_)
          | (refine wpList_store_row rfl 24 _ _ rfl (a1 + 1) (rowOf 14 (ints (bareTo c l k))) rfl rfl 24 (rowOf 14 (ints fun _ => 0)) hqr (by kernel_rfl) rfl (ints_one _ _) ?_))
        exact bodyPost_ret (results_cell_row (p := 4) (ty := 24) (by kernel_rfl) _ _ (a1 + 1) 24 (rowOf 14 (ints (bareTo c l k))) (0, 0) _ rfl (hqr.setRow_ _) Try.underlying24 rfl (by kernel_rfl)) rfl ⟨by rw [HT2.out], by rw [HZ.out]; exact below_setRow_ hBr (by omega) _⟩

/-- The document's: the threads one by one, by their levels. -/
def rbareTo (c : Nat → Int) (l : Int) (k i : Nat) : Int := if 2 ≤ i ∧ i < 2 + k ∧ 0 ≤ lvl c (i - 2 : Nat) ∧ l < lvl c (i - 2 : Nat) then c 0 - 1 else c i
theorem rbareTo_zero (c : Nat → Int) (l : Int) (i : Nat) : rbareTo c l 0 i = c i := if_neg (by omega)
theorem rbareTo_no (c : Nat → Int) (l : Int) (k : Nat) (h : ¬ (0 ≤ lvl c k ∧ l < lvl c k)) (i : Nat) : rbareTo c l (k + 1) i = rbareTo c l k i := by
  unfold rbareTo
  by_cases e : i = 2 + k
  · subst e; rw [show 2 + k - 2 = k by omega, if_neg (fun h2 => h h2.2.2), if_neg (fun h2 => h h2.2.2)]
  · by_cases h2 : 2 ≤ i ∧ i < 2 + k ∧ 0 ≤ lvl c (i - 2 : Nat) ∧ l < lvl c (i - 2 : Nat)
    · rw [if_pos h2, if_pos ⟨h2.1, by omega, h2.2.2⟩]
    · rw [if_neg h2, if_neg (fun h3 => h2 ⟨h3.1, by omega, h3.2.2⟩)]
theorem rbareTo_yes (c : Nat → Int) (l : Int) (k : Nat) (h : 0 ≤ lvl c k ∧ l < lvl c k) (i : Nat) : (if i = 2 + k then Value.int .i64 (c 0 - 1) else ints (rbareTo c l k) i) = ints (rbareTo c l (k + 1)) i := by
  unfold ints rbareTo
  by_cases e : i = 2 + k
  · subst e; rw [if_pos rfl, show 2 + k - 2 = k by omega, if_pos ⟨by omega, by omega, h⟩]
  · rw [if_neg e]
    by_cases h2 : 2 ≤ i ∧ i < 2 + k ∧ 0 ≤ lvl c (i - 2 : Nat) ∧ l < lvl c (i - 2 : Nat)
    · rw [if_pos h2, if_pos ⟨h2.1, by omega, h2.2.2⟩]
    · rw [if_neg h2, if_neg (fun h3 => h2 ⟨h3.1, by omega, h3.2.2⟩)]
theorem rbareTo_all (c : Nat → Int) (l : Int) (i : Nat) : rbareTo c l 8 i = bare c l i := by
  unfold bare
  by_cases hm : mayB c = true
  · rw [if_pos hm]
    obtain ⟨_, ⟨h1, h2⟩, h3, _⟩ := may_bounds hm
    unfold rbareTo bareTo
    by_cases hi : 2 ≤ i ∧ ((i - 2 : Nat) : Int) < c 1
    · have e1 : lvl c (i - 2 : Nat) = c i := by rw [lvl_yes hm (by omega) hi.2]; congr 1; omega
      have e2 : 0 ≤ c i := by
        have := lvl_bounds c (i - 2 : Nat)
        rcases this with ⟨_, h⟩ | h
        · exact absurd ⟨hm, by omega, hi.2⟩ h
        · rw [← e1]; exact h.1
      rw [e1]
      by_cases h4 : l < c i
      · rw [if_pos ⟨hi.1, by omega, e2, h4⟩, if_pos ⟨hi.1, by omega, h4⟩]
      · rw [if_neg (fun h => h4 h.2.2.2), if_neg (fun h => h4 h.2.2)]
    · rw [if_neg, if_neg]
      · intro h; exact hi ⟨h.1, by omega⟩
      · rintro ⟨h4, h5, h6, _⟩
        rcases lvl_bounds c (i - 2 : Nat) with ⟨h7, _⟩ | h7
        · omega
        · exact hi ⟨h4, h7.2.2.2.2.2.1⟩
  · rw [if_neg hm]
    unfold rbareTo
    rw [if_neg]
    rintro ⟨_, _, h6, _⟩
    rw [lvl_no (c := c) (fun h => hm h.1)] at h6
    omega
end Go.Proofs.Ytahhfblgcaadnaa
