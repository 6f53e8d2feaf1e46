/- New, Link, Leads, Held, Slips, Clone of a warden: what they make and what they read. -/
import Derived.Test.YtlldhkcimlmaoaaWardDo
import Derived.Test.YtlldhkcimlmaoaaLink
import Derived.Shelf.SlMaps.Clone
import Derived.Great.BuildSlice
namespace Go.Proofs.Ytlldhkcimlmaoaa
open Go.ChangeShapes Go.WideShapes Go.ChangeAt Go.RowKit Go.Maps

/-- A warden that a call has made. -/
def NewWard (w w' : World) (e : Ending) (N : Nat) (s : Ward) : Prop := ∃ g m, e = .returned (.pointer (some ⟨g, 0, none⟩)) ∧ WardIs w' g m N s ∧ Below w.heap.size w w' ∧ w.heap.size ≤ g ∧ w.heap.size ≤ m
def sizeB (a b : Int) : Bool := (decide (1 ≤ a) && decide (a ≤ 4)) && (decide (1 ≤ b) && decide (b ≤ 60))
theorem wNew_no (a b : Int) (h : sizeB a b = false) (w : World) : Calls Try.prog 6 #[.int .i64 a, .int .i64 b] w fun e w' => e = .returned (.pointer none) ∧ w = w' := by
  unfold sizeB at h
  cases h1 : (decide (1 ≤ a) && decide (a ≤ 4))
  · have c1 := fun W => wWithin_any a 1 4 W
    rw [h1] at c1
    have C1 := Lib.hid c1
    clear c1 h1 h
    go_enter Try.func6, Try.ntmps6
    go_wp2_with (go_at_call 19; refine (C1.out _).mono ?_; rintro e w' ⟨rfl, rfl⟩)
    go_ret
    exact ⟨rfl, rfl⟩
  · rw [h1, Bool.true_and] at h
    have c1 := fun W => wWithin_any a 1 4 W
    rw [h1] at c1
    have C1 := Lib.hid c1
    have c2 := fun W => wWithin_any b 1 60 W
    rw [h] at c2
    have C2 := Lib.hid c2
    clear c1 c2 h1 h
    go_enter Try.func6, Try.ntmps6
    go_wp2_with (first | (go_at_call 19; with_reducible refine (C1.out _).mono ?_; rintro e w' ⟨rfl, rfl⟩) | (go_at_call 19; with_reducible refine (C2.out _).mono ?_; rintro e w' ⟨rfl, rfl⟩))
    go_ret
    exact ⟨rfl, rfl⟩
def wrow0 (m a b : Nat) : Array Value := rowOf 248 (wardV m (ward0 a b))
set_option maxRecDepth 100000 in
theorem wNew_yes (a b : Nat) (h : sizeB a b = true) (w : World) : Calls Try.prog 6 #[.int .i64 a, .int .i64 b] w fun e w' => NewWard w w' e 0 (ward0 a b) := by
  unfold sizeB at h
  simp only [Bool.and_eq_true] at h
  have c1 := fun W => wWithin_any a 1 4 W
  rw [decide_eq_true (of_decide_eq_true h.1.1), decide_eq_true (of_decide_eq_true h.1.2)] at c1
  have C1 := Lib.hid c1
  have c2 := fun W => wWithin_any b 1 60 W
  rw [decide_eq_true (of_decide_eq_true h.2.1), decide_eq_true (of_decide_eq_true h.2.2)] at c2
  have C2 := Lib.hid c2
  clear c1 c2 h
  have hmm := @run_makeMap Try.prog
  go_enter Try.func6, Try.ntmps6
  go_wp2_with (first | (go_at_call 19; with_reducible refine (C1.out _).mono ?_; rintro e w' ⟨rfl, rfl⟩) | (go_at_call 19; with_reducible refine (C2.out _).mono ?_; rintro e w' ⟨rfl, rfl⟩) | (refine wpList_buildTo rfl 53 _ rfl (some 16) rfl (wrow0 w.heap.size a b) (by kernel_rfl) ?_))
  go_ret
  refine ⟨w.heap.size + 1, w.heap.size, rfl, ⟨?_, ?_⟩, ((Below.refl _ _).alloc (Nat.le_refl _) _).alloc (by simp) _, Nat.le_succ _, Nat.le_refl _⟩
  · have h := Row.new (w.alloc (.map #[] 0)) (wrow0 w.heap.size a b) 53 (wardV w.heap.size (ward0 a b)) 248 rfl
    rw [World.size_alloc] at h
    exact h
  · exact (SetIs.made w).keep ((Below.refl _ _).alloc (Nat.le_refl _) _)

theorem wSlips_nil (w : World) : Calls Try.prog 18 #[.pointer none] w fun e w' => e = .returned (.int .i64 0) ∧ w = w' := by
  go_enter Try.func18, Try.ntmps18
  go_wp2_with fail
  go_ret
  exact ⟨rfl, rfl⟩
theorem wHeld_nil (a : Int) (w : World) : Calls Try.prog 17 #[.pointer none, .int .i64 a] w fun e w' => e = .returned (.int .i64 0) ∧ w = w' := by
  go_enter Try.func17, Try.ntmps17
  go_wp2_with fail
  go_ret
  exact ⟨rfl, rfl⟩
theorem wClone_nil (w : World) : Calls Try.prog 12 #[.pointer none] w fun e w' => e = .returned (.pointer none) ∧ w = w' := by
  go_enter Try.func12, Try.ntmps12
  go_wp2_with fail
  go_ret
  exact ⟨rfl, rfl⟩
theorem wLink_nil (a b : Int) (w : World) : Calls Try.prog 16 #[.pointer none, .int .i64 a, .int .i64 b] w fun e w' => e = .returned (.int .u64 0) ∧ w = w' := by
  have c1 := Lib.hid (fun W => wHas_nil a b W)
  go_enter Try.func16, Try.ntmps16
  go_wp2_with (go_at_call 27; refine (c1.out _).mono ?_; rintro e w' ⟨rfl, rfl⟩)
  go_ret
  exact ⟨rfl, rfl⟩
theorem wLeads_nil (a : Int) (x : Nat) (hx : x < 18446744073709551616) (w : World) : Calls Try.prog 15 #[.pointer none, .int .i64 a, .int .u64 x] w fun e w' => e = .returned (.bool false) ∧ w = w' := by
  have c1 := Lib.hid (fun W => linkSlot_any x hx W)
  have c2 := Lib.hid (fun W => wHolds_nil a (x % 256 : Nat) W)
  generalize x % 256 = y at *
  go_enter Try.func15, Try.ntmps15
  go_wp2_with (first | (go_at_call 30; refine (c1.out _).mono ?_; rintro e w' ⟨rfl, rfl⟩) | (go_at_call 28; refine (c2.out _).mono ?_; rintro e w' ⟨rfl, rfl⟩))
  go_ret
  exact ⟨rfl, rfl⟩

def linkV (s : Ward) (a b : Int) : Nat := bif hasB s a b then mkL b (s.gen a.toNat b.toNat) else 0
def leadsB (s : Ward) (a : Int) (x : Nat) : Bool := s.held a (x % 256 : Nat) && decide (s.gen a.toNat (x % 256) = x / 256 % 4294967296)
def cnt (n : Nat) (f : Nat → Bool) : Nat := ((List.range n).filter f).length
def heldN (s : Ward) (a : Int) : Nat := cnt 61 fun j => s.held a j
theorem cnt_le (n : Nat) (f : Nat → Bool) : cnt n f ≤ n := by unfold cnt; have := List.length_filter_le f (List.range n); simpa using this
theorem cnt_none (n : Nat) (f : Nat → Bool) (h : ∀ j, j < n → f j = false) : cnt n f = 0 := by
  unfold cnt
  rw [List.length_eq_zero_iff, List.filter_eq_nil_iff]
  intro j hj
  rw [h j (by simpa using hj)]
  simp
theorem cnt_congr (n : Nat) {f f' : Nat → Bool} (h : ∀ j, j < n → f j = f' j) : cnt n f = cnt n f' := by
  unfold cnt
  rw [List.filter_congr fun j hj => h j (by simpa using hj)]
theorem cnt_succ (n : Nat) (f : Nat → Bool) : cnt (n + 1) f = cnt n f + (f n).toNat := by
  unfold cnt
  rw [List.range_succ, List.filter_append, List.length_append]
  cases hf : f n <;> simp [hf]
theorem cnt_one (n : Nat) {f f' : Nat → Bool} (k : Nat) (hk : k < n) (h1 : f k = false) (h2 : f' k = true) (h : ∀ j, j < n → j ≠ k → f' j = f j) : cnt n f' = cnt n f + 1 := by
  induction n with
  | zero => omega
  | succ n ih =>
    rw [cnt_succ, cnt_succ]
    by_cases e : k = n
    · subst e
      rw [h1, h2, cnt_congr k fun j hj => h j (by omega) (by omega)]
      rfl
    · rw [ih (by omega) fun j hj hne => h j (by omega) hne, h n (by omega) (Ne.symm e)]
      omega

theorem below_of_grown {w w' : World} (h : w.grownBy w' none) : Below w.heap.size w w' := ⟨h.os, h.tape, h.output, h.size, fun i hi => h.block i hi (by simp)⟩
section
variable (s : Ward) (N : Nat) (hs : OkW s N) (g m : Nat) (w : World) (hw : WardIs w g m N s)
include hs hw
omit hs in
theorem wSlips_any : Calls Try.prog 18 #[.pointer (some ⟨g, 0, none⟩)] w fun e w' => e = .returned (.int .i64 s.slips) ∧ w = w' := by
  have u := hw.cells.2.2.2
  clear hw
  go_enter Try.func18, Try.ntmps18
  go_wp2_with fail
  go_ret
  exact ⟨rfl, rfl⟩
theorem wLink_any (hN : N < 1000000) (a b : Int) (ha : inI a) (hb : inI b) : Calls Try.prog 16 #[.pointer (some ⟨g, 0, none⟩), .int .i64 a, .int .i64 b] w fun e w' => e = .returned (.int .u64 (linkV s a b : Nat)) ∧ w = w' := by
  have c1 := wHas_any s N hs g m w hw a b
  cases h1 : hasB s a b
  · have e1 : linkV s a b = 0 := by unfold linkV; rw [h1]; rfl
    rw [h1] at c1
    rw [e1]
    have C1 := Lib.hid c1
    clear c1 e1 h1 hs hw
    go_enter Try.func16, Try.ntmps16
    go_wp2_with (go_at_call 27; refine C1.out.mono ?_; rintro e w' ⟨rfl, rfl⟩)
    go_ret
    exact ⟨rfl, rfl⟩
  · have hin := hasB_iff.1 h1
    have b1 := hs.l4
    have b3 := hs.s60
    obtain ⟨l, rfl⟩ : ∃ l : Nat, a = l := ⟨a.toNat, by omega⟩
    obtain ⟨j, rfl⟩ : ∃ j : Nat, b = j := ⟨b.toNat, by omega⟩
    have hl : l < 4 := by omega
    have hj : j < 61 := by omega
    have hl' : ((l : Nat) : Int) < 4 := by omega
    have hj' : ((j : Nat) : Int) < 61 := by omega
    have hg1 := hs.gens l j
    have e1 : linkV s l j = mkL j (s.gen l j) := by unfold linkV; rw [h1]; rfl
    rw [h1] at c1
    rw [e1]
    have C1 := Lib.hid c1
    have hG := hw.gen hl hj
    have C2 := Lib.hid (linkMake_any j (s.gen l j) (by omega) (by omega))
    clear c1 e1 h1 hs hw hin
    go_enter Try.func16, Try.ntmps16
    go_wp2_with (first | (go_at_call 27; refine C1.out.mono ?_; rintro e w' ⟨rfl, rfl⟩) | (go_at_call 32; refine (C2.out _).mono ?_; rintro e w' ⟨rfl, rfl⟩))
    go_ret
    exact ⟨rfl, rfl⟩
theorem wLeads_any (hN : N < 1000000) (a : Int) (ha : inI a) (x : Nat) (hx : x < 18446744073709551616) : Calls Try.prog 15 #[.pointer (some ⟨g, 0, none⟩), .int .i64 a, .int .u64 x] w fun e w' => e = .returned (.bool (leadsB s a x)) ∧ Below w.heap.size w w' := by
  have c1 := Lib.hid (fun W => linkSlot_any x hx W)
  have hy : x % 256 < 256 := by omega
  have iy : inI (x % 256 : Nat) := by unfold inI; omega
  have c2 := wHolds_any s N hs g m w hw a (x % 256 : Nat) ha iy
  cases h1 : s.held a (x % 256 : Nat)
  · have e1 : leadsB s a x = false := by unfold leadsB; rw [h1]; rfl
    rw [h1] at c2
    rw [e1]
    have C2 := Lib.hid c2
    clear c2 e1 h1 hs hw
    generalize x % 256 = y at *
    go_enter Try.func15, Try.ntmps15
    go_wp2_with (first | (go_at_call 30; refine (c1.out _).mono ?_; rintro e w' ⟨rfl, rfl⟩) | (go_at_call 28; refine C2.out.mono ?_; rintro e w1 ⟨rfl, hb1⟩))
    go_ret
    exact ⟨rfl, hb1⟩
  · have hin := hs.in_ _ _ h1
    have hgl := hs.gens a.toNat (x % 256)
    have hin' := hasB_iff.1 hin
    have e0 : linkV s a (x % 256 : Nat) = mkL (x % 256 : Nat) (s.gen a.toNat (x % 256)) := by unfold linkV; rw [hin]; rfl
    have e1 : leadsB s a x = sameL x (linkV s a (x % 256 : Nat)) := by
      unfold leadsB
      rw [h1, e0, Bool.true_and]
      unfold sameL plainN mkL
      rw [decide_eq_decide]
      omega
    have hlt : linkV s a (x % 256 : Nat) < 18446744073709551616 := by rw [e0]; have := mkL_lt (x % 256 : Nat) (s.gen a.toNat (x % 256)); omega
    rw [h1] at c2
    rw [e1]
    have C2 := Lib.hid c2
    have c3 := fun W hW => wLink_any s N hs g m W hW hN a (x % 256 : Nat) ha iy
    have C3 := Lib.hid c3
    have C4 := Lib.hid (fun W => linkSame_any x (linkV s a (x % 256 : Nat)) hx hlt W)
    have HW := Lib.hid hw
    clear c2 c3 e0 e1 h1 hs hw hin hgl hlt hin'
    generalize linkV s a (x % 256 : Nat) = z at *
    generalize x % 256 = y at *
    go_enter Try.func15, Try.ntmps15
    go_wp2_with (first | (go_at_call 30; refine (c1.out _).mono ?_; rintro e w' ⟨rfl, rfl⟩) | (go_at_call 28; refine C2.out.mono ?_; rintro e w1 ⟨rfl, hb1⟩) | (go_at_call 16; refine (C3.out _ (HW.out.keep hb1)).mono ?_; rintro e w2 ⟨rfl, rfl⟩) | (go_at_call 31; refine (C4.out _).mono ?_; rintro e w3 ⟨rfl, rfl⟩))
    go_ret
    exact ⟨rfl, hb1⟩

set_option maxHeartbeats 1000000 in
theorem wHeld_any (a : Int) (ha : inI a) : Calls Try.prog 17 #[.pointer (some ⟨g, 0, none⟩), .int .i64 a] w fun e w' => e = .returned (.int .i64 (heldN s a : Nat)) ∧ Below w.heap.size w w' := by
  obtain ⟨u0, u1, u2, u3⟩ := hw.cells
  obtain ⟨D, hown, hD⟩ := hw.set
  have HO := Lib.hid hown; have HD := Lib.hid hD; have HS := Lib.hid hs
  clear hown hD hw hs
  go_enter Try.func17, Try.ntmps17
  go_wp2_with (at_range; refine wpList_range_own _ rfl _ 49 rfl 64 65 placeLaw Try.underlying49 unitElem m N D rfl HO.out ?_; intro w0 hrg0 hg0 hs0)
  go_frame
  have Hg0 := Lib.hid hg0; have Hrg0 := Lib.hid hrg0; have Hs0 := Lib.hid hs0
  clear hg0 hrg0 hs0
  go_loopw [5] (fun i wr => ∃ (left : Lit → Bool) (c : Nat), i = .int .i64 (cnt 61 fun j => s.held a j && !left (kL a j) : Nat) ∧ wr.ranges (H := Unit) Try.prog 64 unitElem m w.heap.size N D left c ∧ w.grownBy wr none)
    (fun _ wr => wr.rangeLeft m w.heap.size)
  case atStart =>
    refine ⟨_, _, ?_, Hrg0.out, Hg0.out⟩
    rw [cnt_none]
    · rfl
    · intro j hj
      rw [HD.out a j ha (by unfold inI; omega)]
      cases s.held a j <;> rfl
  case round =>
    obtain ⟨left, c, rfl, hrg, hgw⟩ := hrel
    have Hgw := Lib.hid hgw; have Hrg := Lib.hid hrg
    have hcl := cnt_le 61 fun j => s.held a j && !left (kL a j)
    generalize hk : (cnt 61 fun j => s.held a j && !left (kL a j)) = k at *
    have HK := Lib.hid hk
    clear hgw hrg hk
    go_wp2_with (at_next; refine wpList_next_ranges (α := Int × Int) (β := Unit) _ rfl _ rfl 64 placeLaw unitElem (fun x : Int × Int => Value.agg #[.int .i64 x.1, .int .i64 x.2]) (fun _ => .agg #[]) (fun key kl hk => by obtain ⟨x, hx, _⟩ := keyOf_inv hk; exact ⟨x, hx⟩) (fun v y hv => ⟨(), (unitElem_inv hv).1⟩) m w.heap.size N D left c rfl Hrg.out ?_ ?_)
    · intro _ hl0
      have hk : heldN s a = k := by
        rw [← HK.out]
        exact cnt_congr 61 fun j _ => by rw [hl0, Bool.not_false, Bool.and_true]
      have HK2 := Lib.hid hk
      clear hl0 hcl hk
      go_wp2_with fail
      go_ret
      exact ⟨by rw [HK2.out]; rfl, below_of_grown Hgw.out⟩
    · intro x1 x2 kl y1 y2 w1 c1 hkey hlk _ hat hrg1 hlt hg1 hs1 hen
      obtain ⟨⟨z1, z2⟩, hz, rfl, hx1, hx2⟩ := keyOf_inv hkey
      obtain ⟨rfl, rfl⟩ : x1 = z1 ∧ x2 = z2 := by simpa [kP] using hz
      have hin : s.held x1 x2 = true := by rw [← HD.out x1 x2 hx1 hx2]; exact has_true_of_atKey hat
      have hb := hasB_iff.1 (HS.out.in_ x1 x2 hin)
      have b3 := HS.out.s60
      obtain ⟨j0, rfl⟩ : ∃ j0 : Nat, x2 = j0 := ⟨x2.toNat, by omega⟩
      have hj0 : j0 < 61 := by omega
      have hgw1 := Hgw.out.andThen hg1 (fun j hj => by cases hj; exact Or.inl (Nat.le_refl _))
      have hrg2 := hrg1.kept (World.grownBy_alloc w1 (.cells #[.int .i64 x1, .int .i64 j0] 64) none) (by simp) (by simp)
      have hgw2 := hgw1.andThen (World.grownBy_alloc w1 (.cells #[.int .i64 x1, .int .i64 j0] 64) none) (fun j hj => by cases hj)
      have H1 := Lib.hid (And.intro hrg2 (And.intro hgw2 (And.intro hlt (And.intro hin hlk))))
      have HJ := Lib.hid hj0
      have HX := Lib.hid (And.intro hx1 hx2)
      clear hrg1 hg1 hs1 hlt hat hlk hin hb hz hkey hrg2 hgw2 hgw1 hj0 hx1 hx2
      by_cases e : x1 = a
      · subst e
        have HE : Hid (cnt 61 (fun j => s.held x1 j && !(left (kL x1 j) && !(kL x1 j).sameKey (kL x1 j0))) = k + 1) := Lib.hid (by
          rw [← HK.out]
          refine cnt_one 61 j0 HJ.out (by rw [H1.out.2.2.2.1, H1.out.2.2.2.2]; rfl) (by rw [H1.out.2.2.2.1, kL_self]; simp) (fun j hlt hj => ?_)
          rw [sameKey_ne]
          · simp
          · intro hc
            have hjj := (kL_inj HX.out.1 (by unfold inI; omega) HX.out.1 HX.out.2 hc).2
            have hjj' : (j : Int) = (j0 : Int) := hjj
            exact hj (by omega))
        go_wp2_with fail
        go_roundw
        case rel => exact ⟨_, c1, by rw [HE.out]; go_num, H1.out.1, H1.out.2.1⟩
        case measure => rw [H1.out.1.left_eq, Hrg.out.left_eq]; exact H1.out.2.2.1
      · have HE : Hid (cnt 61 (fun j => s.held a j && !(left (kL a j) && !(kL a j).sameKey (kL x1 j0))) = k) := Lib.hid (by
          rw [← HK.out]
          refine cnt_congr 61 (fun j hj => ?_)
          rw [sameKey_ne]
          · simp
          · intro hc
            exact e (kL_inj HX.out.1 HX.out.2 ha (by unfold inI; omega) hc.symm).1)
        go_wp2_with fail
        go_roundw
        case rel => exact ⟨_, c1, by rw [HE.out], H1.out.1, H1.out.2.1⟩
        case measure => rw [H1.out.1.left_eq, Hrg.out.left_eq]; exact H1.out.2.2.1

end
def wrowZ : Array Value := rowOf 248 fun i => match i with | 2 => .map none | _ => .int .i64 0
theorem zeroW (w : World) : (zeroValue 53).run Try.prog w = .ok (.agg wrowZ) w := (zero_of_info (P := Try.prog) (n := 248) (by kernel_rfl)).1 w
theorem wrow_one (m : Nat) (s : Ward) : (rowOf 248 (wardV m s)).all (·.oneCell') = true := rowOf_one fun i => by
  match i with
  | 0 => rfl
  | 1 => rfl
  | 2 => rfl
  | j + 3 =>
    show (bif decide (j < 244) then Value.int .i64 (s.gen (j / 61) (j % 61)) else .int .i64 s.slips).oneCell' = true
    cases decide (j < 244) <;> rfl
theorem clone_row (m m' : Nat) (s : Ward) (i : Nat) (hi : i < 248) : (if i = 2 then Value.map (some m') else wardV m s i) = wardV m' s i := by
  match i, hi with
  | 0, _ => rfl
  | 1, _ => rfl
  | 2, _ => rfl
  | j + 3, _ => rw [if_neg (by omega)]; rfl
set_option maxHeartbeats 1000000 in
theorem mapsClone_any (b : Nat) (es : Array MapEntry) (clock : Nat) (w : World) (hb : w.heap[b]? = some (.map es clock)) : Calls Try.prog 26 #[.map (some b)] w fun e w' => e = .returned (.map (some w.heap.size)) ∧ w' = w.alloc (.map es clock) := by
  have hq := fun w => run_eql_map_nil_sl (P := Try.prog) w 49 _ _ (some b) Try.underlying49
  go_enter Try.func26, Try.ntmps26
  go_wp2
  rw [run_callFunc_extern Try.func36 (by kernel_rfl) (by kernel_rfl) (by kernel_rfl) (e := Extern.MapsClone.clone) (by kernel_rfl), run_maps_clone_sl w 49 hb]
  simp only [Result.andThen]
  rw [Oper.upon_value]
  go_wp2
  rw [run_typeAssert_map_sl _ 49 20 _ _ _ Try.underlying49]
  simp only [Result.andThen]
  rw [Oper.upon_value]
  go_wp2
  go_ret
  exact ⟨rfl, rfl⟩
theorem setClone_any (m n : Nat) (h : Int → Int → Bool) (w : World) (hs : SetIs w m n h) : Calls Try.prog 26 #[.map (some m)] w fun e w' => e = .returned (.map (some w.heap.size)) ∧ SetIs w' w.heap.size n h ∧ Below w.heap.size w w' := by
  obtain ⟨D, ⟨es, clock, hm, r⟩, hD⟩ := hs
  refine (mapsClone_any m es clock w hm).mono fun e w' ⟨he, hw⟩ => ⟨he, ?_, ?_⟩
  · subst hw
    exact ⟨D, ⟨es, clock, (MapKept.heap_alloc w _).1, r⟩, hD⟩
  · subst hw
    exact (Below.refl _ w).alloc (Nat.le_refl _) _
set_option maxHeartbeats 1000000 in
set_option maxRecDepth 100000 in
theorem wClone_any (s : Ward) (N : Nat) (g m : Nat) (w : World) (hw : WardIs w g m N s) : Calls Try.prog 12 #[.pointer (some ⟨g, 0, none⟩)] w fun e w' => NewWard w w' e N s := by
  have HW := Lib.hid hw
  have hz := zeroW
  clear hw
  go_enter Try.func12, Try.ntmps12
  go_upto_region 4 with (first | (refine wpList_load_row rfl 53 _ rfl g rfl 53 (rowOf 248 (wardV m s)) (0, 0) _ HW.out.row Try.underlying53 rfl (by kernel_rfl) ?_) | (refine wpList_store_row rfl 53 _ _ rfl w.heap.size (rowOf 248 (wardV m s)) rfl rfl 53 wrowZ (heap_alloc_new w _) (by kernel_rfl) (by kernel_rfl) (wrow_one _ _) ?_))
  rw [World.setRow_alloc_new]
  generalize hW : World.alloc _ _ = W
  have hr : Row W w.heap.size 53 248 (wardV m s) := by rw [← hW]; exact Row.new _ _ _ _ _ rfl
  have hB : Below w.heap.size w W := by rw [← hW]; exact (Below.refl _ _).alloc (Nat.le_refl _) _
  clear hW
  have hw := HW.out.keep hB
  have u0 := hw.cells.2.2.1
  have C1 := Lib.hid (setClone_any m N s.held W hw.set)
  generalize hz2 : w.heap.size = a1 at *
  have HZ := Lib.hid hz2
  have hlt := hr.lt
  have HR := Lib.hid hr; have HB := Lib.hid hB
  clear hw hr hB hz2 hz
  have HK : Hid (∀ w1, Below W.heap.size W w1 → w1.frozen? ⟨a1, 2, none⟩ = false ∧ w1.cell? ⟨a1, 2, none⟩ = some (.map (some m))) := Lib.hid fun w1 hb => ⟨(HR.out.keep hb).frozen 2, (HR.out.keep hb).cell (i := 2) (by omega)⟩
  go_frame
  go_wp2_with (go_at_call 26; refine C1.out.mono ?_; rintro e w1 ⟨rfl, hs1, hb1⟩; obtain ⟨v0, v1⟩ := HK.out _ hb1)
  go_ret
  refine ⟨a1, W.heap.size, rfl, ⟨?_, hs1.setCell (by show W.heap.size ≠ a1; omega) _⟩, ?_, by rw [HZ.out]; exact Nat.le_refl _, by rw [HZ.out]; exact Nat.le_of_lt hlt⟩
  · exact ((HR.out.keep hb1).set_ 2 _).congr fun i hi => clone_row m _ s i hi
  · rw [HZ.out]
    exact (HB.out.trans (hb1.mono (Nat.le_of_lt hlt))).setCell (Nat.le_refl _) _
end Go.Proofs.Ytlldhkcimlmaoaa
