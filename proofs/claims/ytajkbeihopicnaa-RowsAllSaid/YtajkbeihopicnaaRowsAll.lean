/- The walk of RowsAll. -/
import Derived.Test.YtajkbeihopicnaaRowAllSeq
import Derived.Test.YtajkbeihopicnaaRowsTurn
namespace Go.Proofs.Ytajkbeihopicnaa
open Go.ChangeShapes Go.WideShapes Go.ChangeAt Go.RowKit Go.Shelf

theorem rowsAll_long (A B : Option Addr) (c d : Nat) (L O : List Rw) (hL : 200 < L.length ∨ 200 < O.length) (hM : L.length ≤ 9223372036854775807) (hN : O.length ≤ 9223372036854775807) (x0 x1 : Int) (w : World) :
    Calls Try.prog 4 #[.slice A L.length c, .slice B O.length d, .agg #[.int .i64 x0, .int .i64 x1]] w fun e w' => e = .returned (.bool true) ∧ Below w.heap.size w w' := by
  have C9 := Lib.hid fun W => lives10_any W
  generalize hm : L.length = m at *
  generalize ho : O.length = o at *
  by_cases h1 : 200 < m
  · go_enter Try.func4, Try.ntmps4
    go_wp2_with (go_at_call 6; refine (C9.out _).mono ?_; rintro e w' ⟨rfl, hb⟩)
    all_goals first
      | (exfalso; omega)
      | (go_ret; exact ⟨rfl, ((Below.refl _ w).alloc (Nat.le_refl _) _).trans (hb.mono (by simp))⟩)
  · have h2 : 200 < o := by omega
    go_enter Try.func4, Try.ntmps4
    go_wp2_with (go_at_call 6; refine (C9.out _).mono ?_; rintro e w' ⟨rfl, hb⟩)
    all_goals first
      | (exfalso; omega)
      | (go_ret; exact ⟨rfl, ((Below.refl _ w).alloc (Nat.le_refl _) _).trans (hb.mono (by simp))⟩)

/-- A function is not nil. -/
theorem equalIn_func_nil (w : World) (d : Nat) (f : Fn) (a b : Array Value) : (Op.equalIn (d + 1) 40 (.func f a b) .nilFunc).run Try.prog w = .ok false w := by
  simp [Op.equalIn, run_underlying Try.underlying40]
theorem eql_func_nil (w : World) (f : Fn) (a b : Array Value) : (binOp .eql 40 (.func f a b) .nilFunc).run Try.prog w = .ok (.bool false) w := by
  simp only [binOp]
  simp [Op.equal, Op.maxDepth, equalIn_func_nil w 9999 f a b]
/-- Two numbers in a block of their own. -/
def Box2 (W : World) (B : Nat) (x0 x1 : Int) : Prop := W.heap[B]? = some (.cells #[.int .i64 x0, .int .i64 x1] 38 (0, 0))
theorem Box2.lt {W : World} {B : Nat} {x0 x1 : Int} (h : Box2 W B x0 x1) : B < W.heap.size := (Array.getElem?_eq_some_iff.1 h).1
theorem Box2.cell0 {W : World} {B : Nat} {x0 x1 : Int} (h : Box2 W B x0 x1) : W.cell? ⟨B, 0, none⟩ = some (.int .i64 x0) := by simp [World.cell?, show W.heap[B]? = _ from h]
theorem Box2.cell1 {W : World} {B : Nat} {x0 x1 : Int} (h : Box2 W B x0 x1) : W.cell? ⟨B, 1, none⟩ = some (.int .i64 x1) := by simp [World.cell?, show W.heap[B]? = _ from h]
theorem Box2.new (W : World) (x0 x1 : Int) : Box2 (W.alloc (.cells #[.int .i64 x0, .int .i64 x1] 38)) W.heap.size x0 x1 := World.alloc_heap_new W _
theorem Box2.keep {W W' : World} {B : Nat} {x0 x1 : Int} (h : Box2 W B x0 x1) (hb : Below W.heap.size W W') : Box2 W' B x0 x1 := (hb.block B h.lt).trans h
theorem Box2.only {F : Nat → Prop} {W W' : World} {B : Nat} {x0 x1 : Int} (h : Box2 W B x0 x1) (ho : Only F W W') (hn : ¬ F B) : Box2 W' B x0 x1 := (ho.2 B h.lt hn).trans h
theorem boxed_below {W W' : World} {B : Nat} {t : TypeId} {v : Value} (h : Boxed W B t v) (hb : Below W.heap.size W W') : Boxed W' B t v := (hb.block B h.lt).trans h

/-- What is wanted, after k rows. -/
structure WantR (w W : World) (L : List Rw) (x0 x1 : Int) (k : Nat) (v : Value) : Prop where
  bel : Below w.heap.size w W
  box : Box2 W w.heap.size x0 x1
  hold : Boxed W (w.heap.size + 1) 22 v
  own : W.ownsRow (w.heap.size + 2) 27 3 v (fromL (L.take k) x0).length (flat (fromL (L.take k) x0))
  size : w.heap.size + 2 ≤ W.heap.size
theorem WantR.keep {w W W' : World} {L : List Rw} {x0 x1 : Int} {k : Nat} {v : Value} (h : WantR w W L x0 x1 k v) (hb : Below W.heap.size W W') : WantR w W' L x0 x1 k v :=
  ⟨h.bel.trans (hb.mono h.bel.size), h.box.keep hb, boxed_below h.hold hb, own_at h.own hb, Nat.le_trans h.size hb.size⟩
theorem WantR.same {w W : World} {L : List Rw} {x0 x1 : Int} {k : Nat} {v : Value} (h : WantR w W L x0 x1 k v) (e : fromL (L.take (k + 1)) x0 = fromL (L.take k) x0) : WantR w W L x0 x1 (k + 1) v :=
  ⟨h.bel, h.box, h.hold, by rw [e]; exact h.own, h.size⟩
/-- A row more. -/
theorem WantR.more {w W W4 : World} {L : List Rw} {x0 x1 : Int} {k : Nat} {v v2 : Value} {y : Rw} (h : WantR w W L x0 x1 k v) (hg : W.grownBy W4 v.ownBlock)
    (ho : W4.ownsRow (w.heap.size + 2) 27 3 v2 ((fromL (L.take k) x0).length + 1) (flat (fromL (L.take k) x0) ++ flat [y])) (e : fromL (L.take (k + 1)) x0 = fromL (L.take k) x0 ++ [y]) :
    WantR w (W4.setCell ⟨w.heap.size + 1, 0, none⟩ v2) L x0 x1 (k + 1) v2 := by
  have hne : ∀ i, i < w.heap.size + 2 → some i ≠ v.ownBlock := fun i hi e => by have := (h.own.lt _ e.symm).1; omega
  have hs := h.size
  have hb4 : Below w.heap.size w W4 := below_grown h.bel hg (fun i hi => by have := (h.own.lt _ hi).1; omega) (by omega)
  refine ⟨hb4.setCell (p := ⟨w.heap.size + 1, 0, none⟩) (by simp) v2, ?_, ?_, ?_, ?_⟩
  · exact (Below.heap_setCell W4 ⟨w.heap.size + 1, 0, none⟩ v2 w.heap.size (by simp)).trans ((hg.block w.heap.size (by omega) (hne _ (by omega))).trans h.box)
  · have hB : Boxed W4 (w.heap.size + 1) 22 v := (hg.block (w.heap.size + 1) (by omega) (hne _ (by omega))).trans h.hold
    exact hB.set v2
  · rw [e, flat_append, List.length_append]
    have h1 : Only (fun i => i = w.heap.size + 1) W4 (W4.setCell ⟨w.heap.size + 1, 0, none⟩ v2) := Only.setCell (F := fun i => i = w.heap.size + 1) (Only.refl _ W4) (p := ⟨w.heap.size + 1, 0, none⟩) rfl v2
    rw [← flat_append] at ho ⊢
    exact own_only ho h1 (by omega)
  · have := hg.size; simp only [World.setCell, Array.size_modify]; omega
theorem take_succ_nth {L : List Rw} {k : Nat} (h : k < L.length) : L.take (k + 1) = L.take k ++ [nth L k] := by rw [List.take_add_one, nth_get h]; rfl
theorem from_yes {L : List Rw} {k : Nat} {key : Int} (h : k < L.length) (hk : key ≤ (nth L k).k) : fromL (L.take (k + 1)) key = fromL (L.take k) key ++ [nth L k] := by
  rw [take_succ_nth h]; unfold fromL; rw [List.filter_append]; simp [hk]
theorem from_no {L : List Rw} {k : Nat} {key : Int} (h : k < L.length) (hk : ¬ key ≤ (nth L k).k) : fromL (L.take (k + 1)) key = fromL (L.take k) key := by
  rw [take_succ_nth h]; unfold fromL; rw [List.filter_append]; simp [hk]
theorem from_len (L : List Rw) (key : Int) (k : Nat) : (fromL (L.take k) key).length ≤ L.length := by
  unfold fromL
  have h := List.length_filter_le (fun x => decide (key ≤ x.k)) (L.take k)
  rw [List.length_take] at h
  omega

set_option maxHeartbeats 4000000 in
set_option maxRecDepth 100000 in
theorem rowsAll_short (A B : Option Addr) (c d : Nat) (L O : List Rw) (hL : L.length ≤ 200) (hO : O.length ≤ 200) (x0 x1 : Int) (w : World) (hl : Lies w A L) (ho : Lies w B O) :
    Calls Try.prog 4 #[.slice A L.length c, .slice B O.length d, .agg #[.int .i64 x0, .int .i64 x1]] w fun e w' => e = .returned (.bool true) ∧ Below w.heap.size w w' := by
  have C9 := Lib.hid fun W => lives10_any W
  have C1 := Lib.hid (fun W h => rAll_any A c L (by omega) x0 W h)
  have C2 := Lib.hid (fun W h1 h2 => rSame_any A B c d L O (by omega) (by omega) W h1 h2)
  have C3 := Lib.hid (fun W h1 h2 => rSameRef_any A B c d L O (by omega) (by omega) W h1 h2)
  obtain ⟨i0, hi0, hz0, hz1, hz3⟩ := infoR
  have HL := Lib.hid (And.intro hl ho)
  have HS : Hid (∃ W1, W1 = (w.alloc (.cells #[.int .i64 x0, .int .i64 x1] 38)).alloc (.cells #[.slice none 0 0] 22) ∧ WantR w W1 L x0 x1 0 (.slice none 0 0)) := Lib.hid ⟨_, rfl, ((Below.refl _ w).alloc (Nat.le_refl _) _).alloc (by simp) _, (Box2.new w x0 x1).keep ((Below.refl _ _).alloc (Nat.le_refl _) _), by have := Boxed.new (w.alloc (.cells #[.int .i64 x0, .int .i64 x1] 38)) 22 (.slice none 0 0); rwa [World.size_alloc] at this, World.ownsRow_nil _ _ _ _, by simp⟩
  clear hl ho
  generalize hm : L.length = m at *
  generalize ho : O.length = o at *
  have HM := Lib.hid (And.intro hm ho); clear hm ho
  go_enter Try.func4, Try.ntmps4
  go_wp2_with fail
  obtain ⟨W1, hW1, R1⟩ := HS.out
  rw [← hW1]
  have R0 := Lib.hid R1; clear R1 hW1 HS
  go_loopw [8] (fun i wr => ∃ k : Nat, k ≤ m ∧ i = .int .i64 (k : Nat) ∧ ∃ v, WantR w wr L x0 x1 k v) (fun i _ => m - (intOf i).toNat)
  case atStart => exact ⟨0, Nat.zero_le _, rfl, _, R0.out⟩
  case round =>
    obtain ⟨k, hk, rfl, hrel'⟩ := hrel
    by_cases hlt : k < m
    · obtain ⟨v, R⟩ := hrel'
      obtain ⟨b1, off1, rfl, hb1, hx⟩ := (HL.out.1.keep R.bel).at_ (by rw [HM.out.1]; omega)
      obtain ⟨p0, p1, p2⟩ := hx k (by rw [HM.out.1]; exact hlt)
      have q0 := R.box.cell0
      have HR := Lib.hid R; clear R hx
      by_cases hs : x0 ≤ (nth L k).k
      · have h4 : decide ((nth L k).k ≥ x0) = true := decide_eq_true hs
        have HF := Lib.hid (from_yes (by rw [HM.out.1]; exact hlt) hs)
        have HP := Lib.hid (And.intro p0 (And.intro p1 p2))
        clear hs p1 p2
        generalize hxx : nth L k = y at *
        clear hxx
        go_upto_region 7 with fail
        go_quiet (fail)
        go_upto_region 8 with fail
        have hbq := ((Drew.refl wr).more nq).below wr.heap.size
        have R2 := HR.out.keep hbq
        have s0 := (hbq.cell (p := ⟨b1, off1 + k * 3, none⟩) hb1).trans HP.out.1
        have s1 := (hbq.cell (p := ⟨b1, off1 + k * 3 + 1, none⟩) hb1).trans HP.out.2.1
        have s2 := (hbq.cell (p := ⟨b1, off1 + k * 3 + 2, none⟩) hb1).trans HP.out.2.2
        have hb1' : b1 < (wr.drewN nq).heap.size := Nat.lt_of_lt_of_le hb1 hbq.size
        clear q0 p0 hb1 hbq HP HR
        generalize wr.drewN nq = W at *
        have mixed : Try.prog.follows .mixedOrders = true := by kernel_rfl
        have p0 : W.drew.cell? ⟨b1, off1 + k * 3, none⟩ = _ := s0
        have p1 : W.drew.cell? ⟨b1, off1 + k * 3 + 1, none⟩ = _ := s1
        have p2 : W.drew.cell? ⟨b1, off1 + k * 3 + 2, none⟩ = _ := s2
        have a0 := (boxed_drew R2.hold).cell
        have R3 := (R2.keep (Below.refl _ _).drew).keep ((Below.refl _ W.drew).alloc (Nat.le_refl _) (.cells #[.int .i64 y.k, .int .u64 (y.a : Nat), .int .u64 (y.b : Nat)] 27))
        have a1 := R3.hold.cell
        have a2 : (W.alloc (.cells #[.int .i64 y.k, .int .u64 (y.a : Nat), .int .u64 (y.b : Nat)] 27)).cell? ⟨w.heap.size + 1, 0, none⟩ = some v := a1
        have HR3 := Lib.hid R3
        have hfl := from_len L x0 k
        rw [HM.out.1] at hfl
        clear R2 R3 s0 s1 s2
        go_region_law_o (refine step_append_own rfl _ _ 22 rfl (w.heap.size + 2) 27 i0 (.agg #[.int .i64 0, .int .u64 0, .int .u64 0]) 3 24 Try.underlying22 hi0 hz0 hz1 hz3 rfl (by decide) v (fromL (L.take k) x0).length (flat (fromL (L.take k) x0)) (by simp [Act.eval, Act.put]) HR3.out.own ⟨W.heap.size, 0, none⟩ 1 1 (flat [y]) (by simp [Act.eval, Act.put]) (flat1 y) (OneRow.cell ⟨_, heap_alloc_new W.drew _⟩) (flat_one _) (by unfold maxLen; omega) (by omega) HR3.out.size ?_
                         intro v2 w4 hown hgrow
                         obtain ⟨g4, cap4, rfl, _, _⟩ := hown.form (by omega)
                         have R4 := HR3.out.more hgrow hown HF.out
                         have B4 : Boxed w4 (w.heap.size + 1) 22 v := (hgrow.block (w.heap.size + 1) HR3.out.hold.lt (fun e => by have := (HR3.out.own.lt _ e.symm).1; omega)).trans HR3.out.hold
                         have k0 := B4.cell
                         have k1 := B4.frozen
                         have HR4 := Lib.hid R4; clear R4 B4 hown hgrow)
        all_goals
          go_wp2_with fail
          go_roundw
          case rel => exact ⟨k + 1, by omega, by go_num, _, HR4.out⟩
          case measure => simp [intOf]; omega
      · have h4 : decide ((nth L k).k ≥ x0) = false := decide_eq_false hs
        have HF := Lib.hid (from_no (by rw [HM.out.1]; exact hlt) hs)
        clear hs p1 p2
        generalize hxx : nth L k = y at *
        clear hxx
        go_upto_region 7 with fail
        go_quiet (fail)
        go_wp2_with fail
        go_roundw
        case rel => exact ⟨k + 1, by omega, by go_num, v, (HR.out.keep (((Drew.refl wr).more nq).below _)).same HF.out⟩
        case measure => simp [intOf]; omega
    · obtain rfl : k = m := by omega
      have htk : L.take k = L := by rw [← HM.out.1, List.take_length]
      obtain ⟨v, R⟩ := hrel'
      have q0 := R.box.cell0
      have HR := Lib.hid R; clear R
      have hqf := eql_func_nil
      go_wp2_with (go_at_call 15
                   refine (C1.out _ (HL.out.1.keep HR.out.bel)).mono ?_
                   rintro e w2 ⟨Bo, c', A', rfl, hbo, hbf, hla, hb, hob, hfb⟩)
      obtain ⟨A2, c2, rfl, _, _, hl2⟩ := lies_of_own HR.out.own
      have hown := HR.out.hold
      rw [htk] at hl2 hown
      have hsz := HR.out.size
      have hb3 : Below w2.heap.size w2 ((w2.alloc (.cells #[.int .i64 0] 2)).alloc (.cells #[.bool true] 4)) := ((Below.refl _ w2).alloc (Nat.le_refl _) _).alloc (by simp) _
      have e1 := Boxed.new (w2.alloc (.cells #[.int .i64 0] 2)) 4 (.bool true)
      have e2 := (Boxed.new w2 2 (.int .i64 0)).alloc (.cells #[.bool true] 4)
      have hs3 : ((w2.alloc (.cells #[.int .i64 0] 2)).alloc (.cells #[.bool true] 4)).heap.size = w2.heap.size + 2 := by simp
      rw [World.size_alloc] at e1
      generalize (w2.alloc (.cells #[.int .i64 0] 2)).alloc (.cells #[.bool true] 4) = w3 at *
      have hbr := hb.trans (hb3.mono hb.size)
      have hlw := hla.lt_
      have hl2w := hl2.lt_
      have hb2 := hb.size
      have hB := HR.out.bel.trans (hbr.mono HR.out.bel.size)
      have hsw := HR.out.bel.size
      refine (seq_any (w2.heap.size + 1) w2.heap.size (w.heap.size + 1) w.heap.size Bo wr.heap.size c' c2 x0 x1 A' A2 L w3 (by rw [HM.out.1]; exact hL) (by omega) (by omega) (by omega) (by omega)
        (fun a e h => by have := hlw a e h; omega) (fun a e h => by have := hl2w a e h; omega) e1 e2 (boxed_below hown hbr).cell (hl2.keep hbr) (HR.out.box.keep hbr).cell1 (by rw [HM.out.1]; exact cell_keep hb3 hbo) (cell_keep hb3 hbf) (hla.keep hb3)).mono ?_
      rintro e w4 ⟨⟨u, rfl⟩, I, g1, g2, ho4, hI, hc1, hc2⟩
      have hB4 := Below.only hB ho4 (by have := hB.size; omega) (by omega)
      have g3 := Boxed.only (boxed_below hown hbr) ho4 (by omega)
      have g4 := Box2.only (HR.out.box.keep hbr) ho4 (by omega)
      have k1 := g1.cell
      have k2 := g2.cell
      have k3 := g3.cell
      have k4 := g4.cell1
      have HB4 := Lib.hid hB4
      clear g1 g2 g3 g4 ho4 hB4 hB hbr e1 e2 hs3 hb3 hla hbo hbf hob hfb hb q0 hsz hlw hl2w hl2 hown htk hsw hb2
      have hN : (fromL L x0).length ≤ 200 := by have h1 := List.length_filter_le (fun x : Rw => decide (x0 ≤ x.k)) L; rw [HM.out.1] at h1; exact Nat.le_trans h1 hL
      generalize (fromL L x0).length = N at *
      generalize hso : decide (L = O) = so at *
      clear hso
      have hss : (so == so) = true := by cases so <;> rfl
      by_cases hp : 0 < x1
      · by_cases hq : x1 < (N : Int)
        · have hx := hc1 ⟨hp, hq⟩
          have d1 : decide (x1 > 0) = true := decide_eq_true hp
          have d2 : decide (x1 < (N : Int)) = true := decide_eq_true hq
          subst hx
          clear hc1 hc2
          go_wp2_with (first
            | (go_at_call 17; refine (C2.out _ (HL.out.1.keep HB4.out) (HL.out.2.keep HB4.out)).mono ?_; rintro e w5 ⟨rfl, hd5⟩; have HB5 := Lib.hid (HB4.out.trans (hd5.below _)); clear hd5)
            | (go_at_call 13; refine (C3.out _ (HL.out.1.keep HB5.out) (HL.out.2.keep HB5.out)).mono ?_; rintro e w6 ⟨rfl, hd6⟩; have HB6 := Lib.hid (HB5.out.trans (hd6.below _)); clear hd6)
            | (go_at_call 6; refine (C9.out _).mono ?_; rintro e w7 ⟨rfl, hb7⟩; have HB7 := Lib.hid (HB6.out.trans (hb7.mono HB6.out.size)); clear hb7))
          go_ret
          exact ⟨rfl, HB7.out⟩
        · have hx := hc2 (fun h => hq h.2)
          have d1 : decide (x1 > 0) = true := decide_eq_true hp
          have d2 : decide (x1 < (N : Int)) = false := decide_eq_false hq
          subst hx
          clear hc1 hc2
          go_wp2_with (first
            | (go_at_call 17; refine (C2.out _ (HL.out.1.keep HB4.out) (HL.out.2.keep HB4.out)).mono ?_; rintro e w5 ⟨rfl, hd5⟩; have HB5 := Lib.hid (HB4.out.trans (hd5.below _)); clear hd5)
            | (go_at_call 13; refine (C3.out _ (HL.out.1.keep HB5.out) (HL.out.2.keep HB5.out)).mono ?_; rintro e w6 ⟨rfl, hd6⟩; have HB6 := Lib.hid (HB5.out.trans (hd6.below _)); clear hd6)
            | (go_at_call 6; refine (C9.out _).mono ?_; rintro e w7 ⟨rfl, hb7⟩; have HB7 := Lib.hid (HB6.out.trans (hb7.mono HB6.out.size)); clear hb7))
          go_ret
          exact ⟨rfl, HB7.out⟩
      · have hx := hc2 (fun h => hp h.1)
        have d1 : decide (x1 > 0) = false := decide_eq_false hp
        subst hx
        clear hc1 hc2
        go_wp2_with (first
          | (go_at_call 17; refine (C2.out _ (HL.out.1.keep HB4.out) (HL.out.2.keep HB4.out)).mono ?_; rintro e w5 ⟨rfl, hd5⟩; have HB5 := Lib.hid (HB4.out.trans (hd5.below _)); clear hd5)
          | (go_at_call 13; refine (C3.out _ (HL.out.1.keep HB5.out) (HL.out.2.keep HB5.out)).mono ?_; rintro e w6 ⟨rfl, hd6⟩; have HB6 := Lib.hid (HB5.out.trans (hd6.below _)); clear hd6)
          | (go_at_call 6; refine (C9.out _).mono ?_; rintro e w7 ⟨rfl, hb7⟩; have HB7 := Lib.hid (HB6.out.trans (hb7.mono HB6.out.size)); clear hb7))
        go_ret
        exact ⟨rfl, HB7.out⟩

theorem rowsAll_walk (A B : Option Addr) (c d : Nat) (L O : List Rw) (hM : L.length ≤ 9223372036854775807) (hN : O.length ≤ 9223372036854775807) (x0 x1 : Int) (w : World) (hl : Lies w A L) (ho : Lies w B O) :
    Calls Try.prog 4 #[.slice A L.length c, .slice B O.length d, .agg #[.int .i64 x0, .int .i64 x1]] w fun e w' => e = .returned (.bool true) ∧ Below w.heap.size w w' := by
  by_cases h : 200 < L.length ∨ 200 < O.length
  · exact rowsAll_long A B c d L O h hM hN x0 x1 w
  · exact rowsAll_short A B c d L O (by omega) (by omega) x0 x1 w hl ho
end Go.Proofs.Ytajkbeihopicnaa
