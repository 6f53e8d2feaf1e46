/- The document's warden: what it reads. -/
import Derived.Test.YtlldhkcimlmaoaaWardNew
import Derived.Test.YtlldhkcimlmaoaaRef2
import Derived.IntWalk
namespace Go.Proofs.Ytlldhkcimlmaoaa
set_option linter.unusedVariables false
open Go.ChangeShapes Go.WideShapes Go.ChangeAt Go.RowKit Go.Maps

/-- The document's warden as a value: where its levels' list lies, and its slips. -/
def refR (b c : Nat) (s : Ward) : Nat → Value
  | 0 => .slice (some ⟨b, 0, none⟩) s.levels c
  | _ => .int .i64 s.slips
theorem ref_cells {w : World} {g : Nat} {t : TypeId} {b c : Nat} {s : Ward} (hr : Row w g t 2 (refR b c s)) : w.cell? ⟨g, 0, none⟩ = some (.slice (some ⟨b, 0, none⟩) s.levels c) ∧ w.cell? ⟨g, 1, none⟩ = some (.int .i64 s.slips) :=
  ⟨hr.cell (i := 0) (by omega), hr.cell (i := 1) (by omega)⟩
/-- Its levels' list lies at b, level i's slots at Bk i, of capacity Cp i: in blocks that there are, none of F's. -/
structure RefIs (F : Nat → Prop) (w : World) (b : Nat) (Bk Cp : Nat → Nat) (s : Ward) : Prop where
  blk : b < w.heap.size
  out : ¬ F b
  row : ∀ i, i < s.levels → w.cell? ⟨b, i, none⟩ = some (.slice (some ⟨Bk i, 0, none⟩) s.slots (Cp i))
  blks : ∀ i, i < s.levels → Bk i < w.heap.size ∧ ¬ F (Bk i)
  cell : ∀ i j, i < s.levels → j < s.slots → w.cell? ⟨Bk i, j * 2, none⟩ = some (.bool (s.held i (j + 1))) ∧ w.cell? ⟨Bk i, j * 2 + 1, none⟩ = some (.int .i64 (s.gen i (j + 1)))
section
variable {F G : Nat → Prop} {w w' : World} {b : Nat} {Bk Cp : Nat → Nat} {s : Ward}
theorem RefIs.keep (h : RefIs F w b Bk Cp s) (hb : Below w.heap.size w w') : RefIs F w' b Bk Cp s :=
  ⟨Nat.lt_of_lt_of_le h.blk hb.size, h.out, fun i hi => (hb.cell (p := ⟨b, i, none⟩) h.blk).trans (h.row i hi), fun i hi => ⟨Nat.lt_of_lt_of_le (h.blks i hi).1 hb.size, (h.blks i hi).2⟩,
    fun i j hi hj => ⟨(hb.cell (p := ⟨Bk i, j * 2, none⟩) (h.blks i hi).1).trans (h.cell i j hi hj).1, (hb.cell (p := ⟨Bk i, j * 2 + 1, none⟩) (h.blks i hi).1).trans (h.cell i j hi hj).2⟩⟩
theorem RefIs.only (h : RefIs F w b Bk Cp s) (ho : Only F w w') : RefIs F w' b Bk Cp s :=
  ⟨Nat.lt_of_lt_of_le h.blk ho.size, h.out, fun i hi => (only_cell ho (a := ⟨b, i, none⟩) h.blk h.out).trans (h.row i hi), fun i hi => ⟨Nat.lt_of_lt_of_le (h.blks i hi).1 ho.size, (h.blks i hi).2⟩,
    fun i j hi hj => ⟨(only_cell ho (a := ⟨Bk i, j * 2, none⟩) (h.blks i hi).1 (h.blks i hi).2).trans (h.cell i j hi hj).1, (only_cell ho (a := ⟨Bk i, j * 2 + 1, none⟩) (h.blks i hi).1 (h.blks i hi).2).trans (h.cell i j hi hj).2⟩⟩
theorem RefIs.free (h : RefIs F w b Bk Cp s) (hG : ∀ i, i < w.heap.size → ¬ G i) : RefIs G w b Bk Cp s :=
  ⟨h.blk, hG b h.blk, h.row, fun i hi => ⟨(h.blks i hi).1, hG _ (h.blks i hi).1⟩, h.cell⟩
end

def linkR (y z : Nat) (mk : Bool) : Nat → Value
  | 0 => .int .i64 y
  | 1 => .int .i64 z
  | _ => .bool mk
def slotR (h : Bool) (g : Nat) : Nat → Value
  | 0 => .bool h
  | _ => .int .i64 g
theorem ref2Read_any (x : Nat) (hx : x < 18446744073709551616) (w : World) :
    Calls Try.prog 34 #[.int .u64 x] w fun e w' => e = .returned (.agg #[.int .i64 (x % 256 : Nat), .int .i64 (x / 256 % 4294967296 : Nat), .bool (decide (9223372036854775808 ≤ x))]) ∧ Below w.heap.size w w' := by
  go_enter Try.func34, Try.ntmps34
  go_wp2_with fail
  exact bodyPost_ret (v := .agg #[.int .i64 (x % 256 : Nat), .int .i64 (x / 256 % 4294967296 : Nat), .bool (decide (9223372036854775808 ≤ x))]) (by simp [results, Try.results34, go_sem]; omega) rfl ⟨rfl, (Below.refl _ _).alloc (Nat.le_refl _) _⟩

theorem cnt_up (n d : Nat) (f : Nat → Bool) (h : ∀ j, n ≤ j → f j = false) : cnt (n + d) f = cnt n f := by
  induction d with
  | zero => rfl
  | succ d ih => rw [← Nat.add_assoc, cnt_succ, ih, h (n + d) (by omega)]; rfl
theorem cnt_down (n : Nat) (f : Nat → Bool) (h0 : f 0 = false) : cnt (n + 1) f = cnt n fun j => f (j + 1) := by
  induction n with
  | zero => rw [cnt_succ, h0]; rfl
  | succ n ih => rw [cnt_succ, ih, cnt_succ]
/-- Slots are counted from 1 on. -/
theorem cnt_shift {s : Ward} {N : Nat} (hs : OkW s N) (a : Int) : heldN s a = cnt s.slots fun j => s.held a (j + 1 : Nat) := by
  have hf : ∀ j : Nat, (j = 0 ∨ s.slots < j) → s.held a j = false := fun j hj => by
    cases hh : s.held a j
    · rfl
    · have := hasB_iff.1 (hs.in_ _ _ hh)
      omega
  have h60 := hs.s60
  unfold heldN
  rw [show 61 = (s.slots + 1) + (60 - s.slots) by omega, cnt_up (s.slots + 1) _ _ fun j hj => hf j (by omega), cnt_down _ _ (hf 0 (.inl rfl))]
section
variable (F : Nat → Prop) (b c : Nat) (Bk Cp : Nat → Nat) (s : Ward) (N : Nat) (hs : OkW s N) (w : World) (hr : RefIs F w b Bk Cp s)
include hs hr
set_option maxHeartbeats 1000000 in
theorem rThere_any (l j : Int) : Calls Try.prog 24 #[.agg #[.slice (some ⟨b, 0, none⟩) s.levels c, .int .i64 s.slips], .int .i64 l, .int .i64 j] w fun e w' => e = .returned (.bool (hasB s l j)) ∧ Below w.heap.size w w' := by
  have b0 := hs.l1
  have b1 := hs.l4
  have b2 := hs.s1
  have b3 := hs.s60
  have e1 : hasB s l j = (decide (0 ≤ l ∧ l < s.levels) && decide (1 ≤ j ∧ j ≤ s.slots)) := rfl
  by_cases h1 : 0 ≤ l
  · by_cases h2 : l < s.levels
    · obtain ⟨k, rfl⟩ : ∃ k : Nat, l = k := ⟨l.toNat, by omega⟩
      have hk : k < s.levels := by omega
      rw [decide_eq_true (⟨h1, h2⟩ : 0 ≤ (k : Int) ∧ (k : Int) < s.levels), Bool.true_and] at e1
      have q := Lib.hid (hr.row k hk)
      by_cases h3 : 1 ≤ j
      · have e2 : hasB s k j = decide (j ≤ s.slots) := by rw [e1]; by_cases h4 : j ≤ s.slots <;> simp [h3, h4]
        have E2 := Lib.hid e2
        have qb := (hr.blk)
        clear e1 e2 hs q
        go_enter Try.func24, Try.ntmps24
        go_upto_region 1 with fail
        generalize hW : World.alloc _ _ = W
        have hx : Row W w.heap.size 30 2 (refR b c s) := by rw [← hW]; exact Row.new _ _ _ _ _ rfl
        have hB : Below w.heap.size w W := by rw [← hW]; exact (Below.refl _ _).alloc (Nat.le_refl _) _
        have hR := hr.keep hB
        clear hW
        generalize hz : w.heap.size = a1 at *
        have HZ := Lib.hid hz
        obtain ⟨u0, u1⟩ := ref_cells hx
        have HR := Lib.hid hR; have HB := Lib.hid hB; have HX := Lib.hid hx
        clear hz hR hB hr hx
        have u2 := HR.out.row k hk
        have t1 : decide (k < s.levels) = true := by simp [hk]
        go_wp2_with fail
        all_goals
          go_ret
          exact ⟨by rw [E2.out]; first | rfl | (simp; omega), by rw [HZ.out]; exact HB.out⟩
      · have e2 : hasB s k j = false := by rw [e1]; simp; omega
        have E2 := Lib.hid e2
        clear e1 e2 hs q
        go_enter Try.func24, Try.ntmps24
        go_upto_region 1 with fail
        generalize hW : World.alloc _ _ = W
        have hx : Row W w.heap.size 30 2 (refR b c s) := by rw [← hW]; exact Row.new _ _ _ _ _ rfl
        have hB : Below w.heap.size w W := by rw [← hW]; exact (Below.refl _ _).alloc (Nat.le_refl _) _
        have hR := hr.keep hB
        clear hW
        generalize hz : w.heap.size = a1 at *
        have HZ := Lib.hid hz
        obtain ⟨u0, u1⟩ := ref_cells hx
        have HR := Lib.hid hR; have HB := Lib.hid hB; have HX := Lib.hid hx
        clear hz hR hB hr hx
        have t1 : decide (k < s.levels) = true := by simp [hk]
        go_wp2_with fail
        go_ret
        exact ⟨by rw [E2.out]; rfl, by rw [HZ.out]; exact HB.out⟩
    · have e2 : hasB s l j = false := by rw [e1, decide_eq_false (fun e => h2 e.2)]; rfl
      have E2 := Lib.hid e2
      clear e1 e2 hs
      go_enter Try.func24, Try.ntmps24
      go_upto_region 1 with fail
      generalize hW : World.alloc _ _ = W
      have hx : Row W w.heap.size 30 2 (refR b c s) := by rw [← hW]; exact Row.new _ _ _ _ _ rfl
      have hB : Below w.heap.size w W := by rw [← hW]; exact (Below.refl _ _).alloc (Nat.le_refl _) _
      have hR := hr.keep hB
      clear hW
      generalize hz : w.heap.size = a1 at *
      have HZ := Lib.hid hz
      obtain ⟨u0, u1⟩ := ref_cells hx
      have HR := Lib.hid hR; have HB := Lib.hid hB; have HX := Lib.hid hx
      clear hz hR hB hr hx
      go_wp2_with fail
      go_ret
      exact ⟨by rw [E2.out]; rfl, by rw [HZ.out]; exact HB.out⟩
  · have e2 : hasB s l j = false := by rw [e1, decide_eq_false (fun e => h1 e.1)]; rfl
    have E2 := Lib.hid e2
    clear e1 e2 hs
    go_enter Try.func24, Try.ntmps24
    go_upto_region 1 with fail
    generalize hW : World.alloc _ _ = W
    have hx : Row W w.heap.size 30 2 (refR b c s) := by rw [← hW]; exact Row.new _ _ _ _ _ rfl
    have hB : Below w.heap.size w W := by rw [← hW]; exact (Below.refl _ _).alloc (Nat.le_refl _) _
    have hR := hr.keep hB
    clear hW
    generalize hz : w.heap.size = a1 at *
    have HZ := Lib.hid hz
    obtain ⟨u0, u1⟩ := ref_cells hx
    have HR := Lib.hid hR; have HB := Lib.hid hB; have HX := Lib.hid hx
    clear hz hR hB hr hx
    go_wp2_with fail
    go_ret
    exact ⟨by rw [E2.out]; rfl, by rw [HZ.out]; exact HB.out⟩
set_option maxHeartbeats 1000000 in
theorem rLink_any (hN : N < 1000000) (l j : Int) (hl : inI l) (hj : inI j) : Calls Try.prog 11 #[.agg #[.slice (some ⟨b, 0, none⟩) s.levels c, .int .i64 s.slips], .int .i64 l, .int .i64 j] w fun e w' => e = .returned (.int .u64 (linkV s l j : Nat)) ∧ Below w.heap.size w w' := by
  have b1 := hs.l4
  have b3 := hs.s60
  have C1 := Lib.hid fun W hr' => rThere_any F b c Bk Cp s N hs W hr' l j
  cases hh : hasB s l j
  · have e1 : linkV s l j = 0 := by unfold linkV; rw [hh]; rfl
    rw [hh] at C1
    rw [e1]
    clear e1 hh hs
    go_enter Try.func11, Try.ntmps11
    go_upto_region 1 with fail
    generalize hW : World.alloc _ _ = W
    have hx : Row W w.heap.size 30 2 (refR b c s) := by rw [← hW]; exact Row.new _ _ _ _ _ rfl
    have hB : Below w.heap.size w W := by rw [← hW]; exact (Below.refl _ _).alloc (Nat.le_refl _) _
    have hR := hr.keep hB
    clear hW
    generalize hz : w.heap.size = a1 at *
    have HZ := Lib.hid hz
    obtain ⟨u0, u1⟩ := ref_cells hx
    have HR := Lib.hid hR; have HB := Lib.hid hB; have HX := Lib.hid hx
    clear hz hR hB hr hx
    go_wp2_with (go_at_call 24; refine (C1.out _ HR.out).mono ?_; rintro e w1 ⟨rfl, hb1⟩)
    go_ret
    exact ⟨rfl, by rw [HZ.out]; exact HB.out.trans (hb1.mono (Nat.le_of_lt HX.out.lt))⟩
  · have hin := hasB_iff.1 hh
    obtain ⟨k, rfl⟩ : ∃ k : Nat, l = k := ⟨l.toNat, by omega⟩
    obtain ⟨i, rfl⟩ : ∃ i : Nat, j = i + 1 := ⟨j.toNat - 1, by omega⟩
    have hk : k < s.levels := by omega
    have hi : i < s.slots := by omega
    have hg1 := hs.gens k (i + 1)
    have e1 : linkV s k (i + 1 : Nat) = mkL (i + 1 : Nat) (s.gen k (i + 1)) := by
      unfold linkV
      rw [show ((i + 1 : Nat) : Int) = (i : Int) + 1 by omega, hh]
      rfl
    have e1' : linkV s k ((i : Int) + 1) = mkL ((i : Int) + 1) (s.gen k (i + 1)) := e1
    have C2 := Lib.hid (fun W => ref2Make_any ((i : Int) + 1) (s.gen k (i + 1)) (by omega) (by omega) W)
    rw [hh] at C1
    rw [e1']
    clear e1 e1' hh hs hin
    go_enter Try.func11, Try.ntmps11
    go_upto_region 1 with fail
    generalize hW : World.alloc _ _ = W
    have hx : Row W w.heap.size 30 2 (refR b c s) := by rw [← hW]; exact Row.new _ _ _ _ _ rfl
    have hB : Below w.heap.size w W := by rw [← hW]; exact (Below.refl _ _).alloc (Nat.le_refl _) _
    have hR := hr.keep hB
    clear hW
    generalize hz : w.heap.size = a1 at *
    have HZ := Lib.hid hz
    obtain ⟨u0, u1⟩ := ref_cells hx
    have HR := Lib.hid hR; have HB := Lib.hid hB; have HX := Lib.hid hx
    clear hz hR hB hr hx
    go_upto_region 3 with (go_at_call 24; refine (C1.out _ HR.out).mono ?_; rintro e w1 ⟨rfl, hb1⟩)
    have hR1 := HR.out.keep hb1
    have hx1 := HX.out.keep hb1
    clear u0 u1
    obtain ⟨u0, u1⟩ := ref_cells hx1
    have u2 := hR1.row k hk
    have u3 := (hR1.cell k i hk hi).2
    have t1 : decide (k < s.levels) = true := by simp [hk]
    have t2 : decide (i < s.slots) = true := by simp [hi]
    have HB1 := Lib.hid (HB.out.trans (hb1.mono (Nat.le_of_lt HX.out.lt)))
    clear hR1 hx1 hb1
    go_wp2_with (go_at_call 25; refine (C2.out _).mono ?_; rintro e w' ⟨rfl, rfl⟩)
    go_ret
    exact ⟨rfl, by rw [HZ.out]; exact HB1.out⟩

set_option maxHeartbeats 1000000 in
theorem rHeld_any (l : Int) (hl : inI l) : Calls Try.prog 22 #[.agg #[.slice (some ⟨b, 0, none⟩) s.levels c, .int .i64 s.slips], .int .i64 l] w fun e w' => e = .returned (.int .i64 (heldN s l : Nat)) ∧ Below w.heap.size w w' := by
  have b1 := hs.l4
  have b3 := hs.s60
  by_cases h1 : 0 ≤ l ∧ l < s.levels
  · obtain ⟨k, rfl⟩ : ∃ k : Nat, l = k := ⟨l.toNat, by omega⟩
    have hk : k < s.levels := by omega
    have t1 : decide (k < s.levels) = true := by simp [hk]
    have E1 := Lib.hid (cnt_shift hs k)
    clear hs h1
    go_enter Try.func22, Try.ntmps22
    go_upto_region 1 with fail
    generalize hW : World.alloc _ _ = W
    have hx : Row W w.heap.size 30 2 (refR b c s) := by rw [← hW]; exact Row.new _ _ _ _ _ rfl
    have hB : Below w.heap.size w W := by rw [← hW]; exact (Below.refl _ _).alloc (Nat.le_refl _) _
    have hR := hr.keep hB
    clear hW
    generalize hz : w.heap.size = a1 at *
    have HZ := Lib.hid hz
    obtain ⟨u0, u1⟩ := ref_cells hx
    have HR := Lib.hid hR; have HB := Lib.hid hB; have HX := Lib.hid hx
    clear hz hR hB hr hx
    have u2 := HR.out.row k hk
    go_wp2_with fail
    go_loop [5, 6] (fun n i => ∃ q : Nat, i = .int .i64 q ∧ q ≤ s.slots ∧ n = .int .i64 (cnt q fun j => s.held k (j + 1 : Nat) : Nat)) (fun _ i => s.slots - (intOf i).toNat)
    case atStart => exact ⟨0, rfl, Nat.zero_le _, rfl⟩
    case round =>
      obtain ⟨q, rfl, hq, rfl⟩ := hrel
      have hcl := cnt_le q fun j => s.held k (j + 1 : Nat)
      by_cases hlt : q < s.slots
      · have t2 : decide (q < s.slots) = true := by simp [hlt]
        have u3 := (HR.out.cell k q hk hlt).1
        have HS := Lib.hid (cnt_succ q fun j => s.held k (j + 1 : Nat))
        generalize (cnt q fun j => s.held k (j + 1 : Nat)) = n at *
        cases hh : s.held k ((q : Int) + 1)
        · rw [hh] at u3
          have hh' : s.held k (q + 1 : Nat) = false := hh
          have HS2 := Lib.hid (HS.out.trans (by rw [hh']; rfl : _ = n))
          clear hh hh' HS
          go_wp2_with fail
          go_round
          case rel => exact ⟨q + 1, by go_num, by omega, by rw [HS2.out]⟩
          case measure => simp [intOf]; omega
        · rw [hh] at u3
          have hh' : s.held k (q + 1 : Nat) = true := hh
          have HS2 := Lib.hid (HS.out.trans (by rw [hh']; rfl : _ = n + 1))
          clear hh hh' HS
          go_wp2_with fail
          go_round
          case rel => exact ⟨q + 1, by go_num, by omega, by rw [HS2.out]; go_num⟩
          case measure => simp [intOf]; omega
      · have t2 : decide (q < s.slots) = false := by simp; omega
        obtain rfl : q = s.slots := by omega
        have HE := Lib.hid E1.out
        generalize hn : (cnt s.slots fun j => s.held k (j + 1 : Nat)) = n at *
        clear hn
        go_wp2_with fail
        go_ret
        exact ⟨by rw [E1.out]; rfl, by rw [HZ.out]; exact HB.out⟩
  · have e0 : heldN s l = 0 := by
      unfold heldN
      refine cnt_none 61 _ fun j _ => ?_
      cases hh : s.held l j
      · rfl
      · exact absurd (hasB_iff.1 (hs.in_ _ _ hh)).1 h1
    rw [e0]
    clear e0 hs
    by_cases h2 : 0 ≤ l
    · have h3 : ¬ l < s.levels := fun h3 => h1 ⟨h2, h3⟩
      clear h1
      go_enter Try.func22, Try.ntmps22
      go_upto_region 1 with fail
      generalize hW : World.alloc _ _ = W
      have hx : Row W w.heap.size 30 2 (refR b c s) := by rw [← hW]; exact Row.new _ _ _ _ _ rfl
      have hB : Below w.heap.size w W := by rw [← hW]; exact (Below.refl _ _).alloc (Nat.le_refl _) _
      have hR := hr.keep hB
      clear hW
      generalize hz : w.heap.size = a1 at *
      have HZ := Lib.hid hz
      obtain ⟨u0, u1⟩ := ref_cells hx
      have HR := Lib.hid hR; have HB := Lib.hid hB; have HX := Lib.hid hx
      clear hz hR hB hr hx
      go_wp2_with fail
      refine wp_loop_rounds 1 ?_
      rw [rounds_succ]
      go_wp2_with fail
      go_ret
      exact ⟨rfl, by rw [HZ.out]; exact HB.out⟩
    · clear h1
      go_enter Try.func22, Try.ntmps22
      go_upto_region 1 with fail
      generalize hW : World.alloc _ _ = W
      have hx : Row W w.heap.size 30 2 (refR b c s) := by rw [← hW]; exact Row.new _ _ _ _ _ rfl
      have hB : Below w.heap.size w W := by rw [← hW]; exact (Below.refl _ _).alloc (Nat.le_refl _) _
      have hR := hr.keep hB
      clear hW
      generalize hz : w.heap.size = a1 at *
      have HZ := Lib.hid hz
      obtain ⟨u0, u1⟩ := ref_cells hx
      have HR := Lib.hid hR; have HB := Lib.hid hB; have HX := Lib.hid hx
      clear hz hR hB hr hx
      go_wp2_with fail
      refine wp_loop_rounds 1 ?_
      rw [rounds_succ]
      go_wp2_with fail
      go_ret
      exact ⟨rfl, by rw [HZ.out]; exact HB.out⟩
set_option maxHeartbeats 2000000 in
theorem rLeads_any (hN : N < 1000000) (l : Int) (hl : inI l) (x : Nat) (hx64 : x < 18446744073709551616) : Calls Try.prog 23 #[.agg #[.slice (some ⟨b, 0, none⟩) s.levels c, .int .i64 s.slips], .int .i64 l, .int .u64 x] w fun e w' => e = .returned (.bool (leadsB s l x)) ∧ Below w.heap.size w w' := by
  have b1 := hs.l4
  have b3 := hs.s60
  have C0 := Lib.hid fun W => ref2Read_any x hx64 W
  have hy : x % 256 < 256 := by omega
  have hz9 : x / 256 % 4294967296 < 4294967296 := by omega
  have C1 := Lib.hid fun W hr' => rThere_any F b c Bk Cp s N hs W hr' l (x % 256 : Nat)
  cases hh : hasB s l (x % 256 : Nat)
  · have e1 : leadsB s l x = false := by
      unfold leadsB
      cases h2 : s.held l (x % 256 : Nat)
      · rfl
      · rw [hs.in_ _ _ h2] at hh; cases hh
    rw [hh] at C1
    rw [e1]
    clear e1 hh hs
    generalize x % 256 = y at *
    generalize x / 256 % 4294967296 = z at *
    generalize decide (9223372036854775808 ≤ x) = mk at *
    go_enter Try.func23, Try.ntmps23
    go_upto_region 1 with fail
    generalize hW : World.alloc _ _ = W
    have hx : Row W w.heap.size 30 2 (refR b c s) := by rw [← hW]; exact Row.new _ _ _ _ _ rfl
    have hB : Below w.heap.size w W := by rw [← hW]; exact (Below.refl _ _).alloc (Nat.le_refl _) _
    have hR := hr.keep hB
    clear hW
    generalize hz : w.heap.size = a1 at *
    have HZ := Lib.hid hz
    obtain ⟨u0, u1⟩ := ref_cells hx
    have HR := Lib.hid hR; have HB := Lib.hid hB; have HX := Lib.hid hx
    clear hz hR hB hr hx
    go_upto_region 2 with (go_at_call 34; refine (C0.out _).mono ?_; rintro e w1 ⟨rfl, hb1⟩)
    clear u0 u1
    generalize hW2 : World.alloc _ _ = W2
    have hb2 : Below w1.heap.size w1 W2 := by rw [← hW2]; exact (Below.refl _ _).alloc (Nat.le_refl _) _
    have hl2 : Row W2 w1.heap.size 69 3 (linkR y z mk) := by rw [← hW2]; exact Row.new _ _ _ _ _ rfl
    have hx2 := (HX.out.keep hb1).keep hb2
    have HR2 := Lib.hid ((HR.out.keep hb1).keep hb2)
    have HB2 := Lib.hid ((HB.out.trans (hb1.mono (Nat.le_of_lt HX.out.lt))).trans (hb2.mono (Nat.le_of_lt (HX.out.keep hb1).lt)))
    obtain ⟨u0, u1⟩ := ref_cells hx2
    have l0 : W2.cell? ⟨w1.heap.size, 0, none⟩ = some (.int .i64 (y : Nat)) := hl2.cell (i := 0) (by omega)
    have l1 : W2.cell? ⟨w1.heap.size, 1, none⟩ = some (.int .i64 (z : Nat)) := hl2.cell (i := 1) (by omega)
    have HX2 := Lib.hid hx2
    have HL2 := Lib.hid hl2
    clear hW2 hb2 hl2 hx2 hb1
    generalize w1.heap.size = a2 at *
    go_wp2_with (go_at_call 24; refine (C1.out _ HR2.out).mono ?_; rintro e w3 ⟨rfl, hb3⟩)
    go_ret
    exact ⟨rfl, by rw [HZ.out]; exact HB2.out.trans (hb3.mono (Nat.le_of_lt HX2.out.lt))⟩
  · have hin := hasB_iff.1 hh
    obtain ⟨k, rfl⟩ : ∃ k : Nat, l = k := ⟨l.toNat, by omega⟩
    have e1 : leadsB s k x = (s.held k (x % 256 : Nat) && decide (s.gen k (x % 256) = x / 256 % 4294967296)) := rfl
    rw [hh] at C1
    rw [e1]
    generalize x % 256 = y at *
    generalize x / 256 % 4294967296 = z at *
    generalize decide (9223372036854775808 ≤ x) = mk at *
    obtain ⟨i, hyi⟩ : ∃ i : Nat, y = i + 1 := ⟨y - 1, by omega⟩
    have HY := Lib.hid hyi
    have hk : k < s.levels := by omega
    have hi : i < s.slots := by omega
    have hg1 := hs.gens k y
    clear hh e1 hin hs hx64
    have t6 : IntKind.i64.wrap ((y : Int) - 1) = ((i : Nat) : Int) := by rw [IntWalk.i64_in _ (by omega)]; omega
    clear hyi
    have T6 := Lib.hid t6; clear t6
    go_enter Try.func23, Try.ntmps23
    go_upto_region 1 with fail
    generalize hW : World.alloc _ _ = W
    have hx : Row W w.heap.size 30 2 (refR b c s) := by rw [← hW]; exact Row.new _ _ _ _ _ rfl
    have hB : Below w.heap.size w W := by rw [← hW]; exact (Below.refl _ _).alloc (Nat.le_refl _) _
    have hR := hr.keep hB
    clear hW
    generalize hz : w.heap.size = a1 at *
    have HZ := Lib.hid hz
    obtain ⟨u0, u1⟩ := ref_cells hx
    have HR := Lib.hid hR; have HB := Lib.hid hB; have HX := Lib.hid hx
    clear hz hR hB hr hx
    go_upto_region 2 with (go_at_call 34; refine (C0.out _).mono ?_; rintro e w1 ⟨rfl, hb1⟩)
    clear u0 u1
    generalize hW2 : World.alloc _ _ = W2
    have hb2 : Below w1.heap.size w1 W2 := by rw [← hW2]; exact (Below.refl _ _).alloc (Nat.le_refl _) _
    have hl2 : Row W2 w1.heap.size 69 3 (linkR y z mk) := by rw [← hW2]; exact Row.new _ _ _ _ _ rfl
    have hx2 := (HX.out.keep hb1).keep hb2
    have HR2 := Lib.hid ((HR.out.keep hb1).keep hb2)
    have HB2 := Lib.hid ((HB.out.trans (hb1.mono (Nat.le_of_lt HX.out.lt))).trans (hb2.mono (Nat.le_of_lt (HX.out.keep hb1).lt)))
    obtain ⟨u0, u1⟩ := ref_cells hx2
    have l0 : W2.cell? ⟨w1.heap.size, 0, none⟩ = some (.int .i64 (y : Nat)) := hl2.cell (i := 0) (by omega)
    have l1 : W2.cell? ⟨w1.heap.size, 1, none⟩ = some (.int .i64 (z : Nat)) := hl2.cell (i := 1) (by omega)
    have HX2 := Lib.hid hx2
    have HL2 := Lib.hid hl2
    clear hW2 hb2 hl2 hx2 hb1
    generalize w1.heap.size = a2 at *
    go_upto_region 4 with (go_at_call 24; refine (C1.out _ HR2.out).mono ?_; rintro e w3 ⟨rfl, hb3⟩)
    have hx3 := HX2.out.keep hb3
    have hl3 := HL2.out.keep hb3
    have hR3 := HR2.out.keep hb3
    have HB3 := Lib.hid (HB2.out.trans (hb3.mono (Nat.le_of_lt HX2.out.lt)))
    clear u0 u1 l0 l1 hb3
    have v0 := (ref_cells hx3).1
    have v1 := hR3.row k hk
    obtain ⟨v2, v3⟩ := hR3.cell k i hk hi
    have ey : ((i : Nat) : Int) + 1 = (y : Nat) := by rw [HY.out]; rfl
    rw [ey] at v2
    rw [← HY.out] at v3
    clear ey
    have v4 : w3.cell? ⟨a2, 0, none⟩ = some (.int .i64 (y : Nat)) := hl3.cell (i := 0) (by omega)
    have hfar : ∀ b i, b < w3.heap.size → (w3.alloc (.cells #[.bool false, .int .i64 0] 61)).cell? ⟨b, i, none⟩ = w3.cell? ⟨b, i, none⟩ := fun b i hb => ((Below.refl w3.heap.size w3).alloc (Nat.le_refl _) _).cell hb
    have p0 := (hfar a1 0 hx3.lt).trans v0
    have p1 := (hfar b k hR3.blk).trans v1
    have p2 := (hfar (Bk k) (i * 2) (hR3.blks k hk).1).trans v2
    have p3 := (hfar (Bk k) (i * 2 + 1) (hR3.blks k hk).1).trans v3
    have p4 := (hfar a2 0 hl3.lt).trans v4
    have HL3 := Lib.hid hl3
    have hlt3 := hx3.lt
    have t1 : decide (k < s.levels) = true := by simp [hk]
    have t2 : decide (i < s.slots) = true := by simp [hi]
    have t3 : ((k : Nat) : Int) < (s.levels : Int) := by omega
    have t4 : ((i : Nat) : Int) < (s.slots : Int) := by omega
    clear hfar hx3 hl3 hR3
    generalize hHD : s.held k (y : Nat) = hd at *
    generalize hGN : s.gen k y = gn at *
    have HHD := Lib.hid hHD; have HGN := Lib.hid hGN
    clear hHD hGN
    have t6 := T6.out
    go_region
    clear p0 p1 p2 p3 p4 v0 v1 v2 v3 v4
    generalize hW4 : World.drew _ = W4
    have hm4 : Row W4 w3.heap.size 61 2 (slotR hd gn) := by rw [← hW4]; exact (Row.new w3 _ _ (slotR hd gn) 2 rfl).drew
    have hb4 : Below w3.heap.size w3 W4 := by rw [← hW4]; exact ((Below.refl _ _).alloc (Nat.le_refl _) _).drew
    clear hW4
    have m0 : W4.cell? ⟨w3.heap.size, 0, none⟩ = some (.bool hd) := hm4.cell (i := 0) (by omega)
    have m1 : W4.cell? ⟨w3.heap.size, 1, none⟩ = some (.int .i64 gn) := hm4.cell (i := 1) (by omega)
    have m2 : W4.cell? ⟨a2, 1, none⟩ = some (.int .i64 z) := (HL3.out.keep hb4).cell (i := 1) (by omega)
    have HB4 := Lib.hid (HB3.out.trans (hb4.mono (Nat.le_of_lt hlt3)))
    clear hm4 hb4
    generalize w3.heap.size = a3 at *
    have d1 : Hid (((gn : Int) == (z : Int)) = decide (gn = z)) := Lib.hid (by rw [Bool.eq_iff_iff]; simp; omega)
    cases hd
    · go_wp2_with fail
      go_ret
      exact ⟨by rw [HHD.out]; rfl, by rw [HZ.out]; exact HB4.out⟩
    · go_wp2_with fail
      go_ret
      exact ⟨by rw [HHD.out, HGN.out, Bool.true_and, ← d1.out]; rfl, by rw [HZ.out]; exact HB4.out⟩
end
end Go.Proofs.Ytlldhkcimlmaoaa
