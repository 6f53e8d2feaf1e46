/- Package line, at lines of int: Pop, Same. -/
import Derived.Test.YtfklbbjmjkojjaaLineI
namespace Go.Proofs.Ytfklbbjmjkojjaa
open Go.ChangeShapes Go.WideShapes Go.ChangeAt Go.RowKit

theorem lnIPop_some (A : Option Addr) (c : Nat) (x : Int) (M : List Int) (hL : M.length ≤ 900000) (hc : M.length + 1 ≤ c) (hcm : c ≤ maxLen) (w : World) (hA : LiesC w A (flatI (x :: M))) :
    Calls Try.prog 21 #[.agg #[.slice A (M.length + 1) c]] w fun e w' => ∃ v, e = .returned (.tuple #[.agg #[v], .int .i64 x, .bool true]) ∧ LnIs w' v M.length (flatI M) ∧ v.ownBlock = (Value.slice A 0 0).ownBlock ∧ Below w.heap.size w w' := by
  have hlM : (x :: M).length = M.length + 1 := rfl
  have c1 := fun W h => lnIPeek_some A c (x :: M) (by rw [hlM]; omega) (by rw [hlM]; omega) x rfl W h
  rw [hlM] at c1
  clear hlM
  generalize hn : M.length = n at *
  obtain ⟨W, hW⟩ : ∃ W, (w.alloc (.cells #[.slice A (n + 1) c] 44)).alloc (.cells #[.slice none 0 0] 44) = W := ⟨_, rfl⟩
  have hx1 : Cells W w.heap.size 44 [.slice A (n + 1) c] := by
    rw [← hW]
    exact (Cells.new w #[.slice A (n + 1) c] 44).alloc _
  have hx2 : Cells W (w.heap.size + 1) 44 [.slice none 0 0] := by
    rw [← hW]
    have := Cells.new (w.alloc (.cells #[.slice A (n + 1) c] 44)) #[.slice none 0 0] 44
    simp only [World.size_alloc] at this
    exact this
  have hb : Below w.heap.size w W := by
    rw [← hW]
    exact ((Below.refl _ w).alloc (Nat.le_refl _) _).alloc (by simp) _
  have p0 := hx1.cell0
  have C1 := Lib.hid (c1 W (hA.keep hb))
  have H := Lib.hid (And.intro hb (And.intro hx1 hx2))
  clear hb hx1 hx2 c1
  go_enter Try.func21, Try.ntmps21
  go_upto_region 4 with (go_at_call 28; refine C1.out.mono ?_; rintro e w1 ⟨rfl, hb1⟩)
  obtain ⟨b, off, rfl, hb, hx⟩ := hA.some_ (by rw [flatI_length]; simp)
  have d1 := H.out.2.1.keep hb1
  have d2 := H.out.2.2.keep hb1
  have hb2 := H.out.1.trans (hb1.mono H.out.1.size)
  have a0 := d1.cell0
  have a1 := d2.cell0
  have a2 := d2.frozen 0
  have HQ := Lib.hid (And.intro d2 hb2)
  clear d1 d2 hb2 hW p0 C1 hb1
  by_cases h1 : c = 1
  · subst h1
    have hM : M = [] := List.eq_nil_of_length_eq_zero (by omega)
    obtain rfl : n = 0 := by omega
    go_wp2_with fail
    have z := (HQ.out.1.set_ 0 (.slice (some ⟨b, off, none⟩) 0 0)).cell0
    refine bodyPost_ret (v := .tuple #[.agg #[.slice (some ⟨b, off, none⟩) 0 0], .int .i64 x, .bool true]) (by simp [results, Try.results21, go_sem, z]) rfl ⟨_, rfl, ?_, rfl, HQ.out.2.setCell (p := ⟨w.heap.size + 1, 0, none⟩) (by simp) _⟩
    exact ⟨_, _, rfl, by omega, by unfold maxLen; omega, (fun e => by cases e), (by rw [hM]; exact .inl rfl), fun a e => by cases e; exact Nat.lt_of_lt_of_le hb ((HQ.out.2.setCell (p := ⟨w.heap.size + 1, 0, none⟩) (by simp) _).size)⟩
  · go_wp2_with fail
    have z := (HQ.out.1.set_ 0 (.slice (some ⟨b, off + 1, none⟩) n (c - 1))).cell0
    refine bodyPost_ret (v := .tuple #[.agg #[.slice (some ⟨b, off + 1, none⟩) n (c - 1)], .int .i64 x, .bool true]) (by simp [results, Try.results21, go_sem, z]) rfl ⟨_, rfl, ?_, rfl, HQ.out.2.setCell (p := ⟨w.heap.size + 1, 0, none⟩) (by simp) _⟩
    have ho := only_below (HQ.out.2.setCell (p := ⟨w.heap.size + 1, 0, none⟩) (by simp) (.slice (some ⟨b, off + 1, none⟩) n (c - 1))) (fun i => w.heap.size ≤ i)
    have hl := hA.only ho (fun a e h => by cases e; exact absurd h (by show ¬ w.heap.size ≤ b; omega))
    exact ⟨_, _, rfl, by omega, by unfold maxLen at *; omega, (fun e => by cases e), hl.drop (k := 1), fun a e => by cases e; exact Nat.lt_of_lt_of_le hb ho.size⟩

theorem eqI_ne {L M : List Int} {k : Nat} (h : decide (L.getD k 0 = M.getD k 0) = false) : decide (L = M) = false := decide_eq_false fun e => by rw [e] at h; simp at h
theorem eqI_eq {L M : List Int} (hl : L.length = M.length) (h : ∀ i, i < L.length → L.getD i 0 = M.getD i 0) : decide (L = M) = true := by
  apply decide_eq_true
  apply List.ext_getElem? ; intro i
  by_cases hi : i < L.length
  · have := h i hi
    simp only [List.getD, List.getElem?_eq_getElem hi, List.getElem?_eq_getElem (show i < M.length by omega), Option.getD_some] at this
    rw [List.getElem?_eq_getElem hi, List.getElem?_eq_getElem (show i < M.length by omega), this]
  · rw [List.getElem?_eq_none (by omega), List.getElem?_eq_none (by omega)]
theorem eqI_len {L M : List Int} (h : L.length ≠ M.length) : decide (L = M) = false := decide_eq_false fun e => h (by rw [e])


theorem lnIEqual_any (A B : Option Addr) (c d : Nat) (L M : List Int) (hL : L.length ≤ 1000000) (hM : M.length ≤ 1000000) (w : World) (ha : LiesC w A (flatI L)) (hb : LiesC w B (flatI M)) :
    Calls Try.prog 27 #[.slice A L.length c, .slice B M.length d] w fun e w' => e = .returned (.bool (decide (L = M))) ∧ Drew w w' := by
  have HA := Lib.hid ha; have HB := Lib.hid hb
  clear ha hb
  generalize hn : L.length = n at *
  generalize hm : M.length = m at *
  by_cases hnm : n = m
  · subst hnm
    go_enter Try.func27, Try.ntmps27
    go_wp2_with fail
    go_loopw [13] (fun i wr => ∃ k : Nat, i = .int .i64 k ∧ k ≤ n ∧ Drew w wr ∧ ∀ i, i < k → L.getD i 0 = M.getD i 0) (fun i _ => n - (intOf i).toNat)
    case atStart => exact ⟨0, rfl, Nat.zero_le _, Drew.refl _, fun i hi => by omega⟩
    case round =>
      obtain ⟨k, rfl, hk, hd, he⟩ := hrel
      by_cases hlt : k < n
      · obtain ⟨b1, off1, rfl, _, x1⟩ := (HA.out.keep (hd.below _)).atI (by omega)
        obtain ⟨b2, off2, rfl, _, x2⟩ := (HB.out.keep (hd.below _)).atI (by omega)
        have p0 := x1 k (by omega)
        have q0 := x2 k (by omega)
        have HD := Lib.hid (hd.more 1)
        have HE := Lib.hid he
        clear x1 x2 hd he
        cases hs : decide (L.getD k 0 = M.getD k 0)
        all_goals
          generalize hx2 : L.getD k 0 = y2 at *
          generalize hx3 : M.getD k 0 = y3 at *
          have h5 : (y2 != y3) = !decide (y2 = y3) := by by_cases h : y2 = y3 <;> simp [h]
          rw [hs] at h5
          rw [← hx2, ← hx3] at hs
          have HS := Lib.hid hs
          clear hs hx2 hx3
        · go_upto_region 6 with fail
          go_region
          go_wp2_with fail
          go_ret
          exact ⟨by rw [eqI_ne HS.out]; rfl, HD.out⟩
        · go_upto_region 6 with fail
          go_region
          go_wp2_with fail
          go_roundw
          case rel => exact ⟨k + 1, by go_num, by omega, HD.out, fun i hi => by
            rcases Nat.lt_or_ge i k with h | h
            · exact HE.out i h
            · obtain rfl : i = k := by omega
              exact of_decide_eq_true HS.out⟩
          case measure => simp [intOf]; omega
      · obtain rfl : k = n := by omega
        have HD := Lib.hid hd; clear hd
        have HE := Lib.hid he; clear he
        go_wp2_with fail
        go_ret
        exact ⟨by rw [eqI_eq (by omega) (fun i hi => HE.out i (by omega))]; rfl, HD.out⟩
  · go_enter Try.func27, Try.ntmps27
    go_wp2_with fail
    all_goals first
      | (exfalso; omega)
      | (go_ret; exact ⟨by rw [eqI_len (by omega)]; rfl, Drew.refl _⟩)
end Go.Proofs.Ytfklbbjmjkojjaa
