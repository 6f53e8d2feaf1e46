/- A line in a variable; the law LineTurns. -/
import Derived.Test.YtfklbbjmjkojjaaLineLaws
import Derived.Deep.RegionHeld3
namespace Go.Proofs.Ytfklbbjmjkojjaa
open Go.ChangeShapes Go.WideShapes Go.ChangeAt Go.RowKit

/-- A line of pairs in a variable of the law's own. -/
structure VarR (w W : World) (B : Nat) (A : Option Addr) (n c : Nat) (X : List Pr) : Prop where
  ln : LnIs W (.slice A n c) n (flatP X)
  len : X.length = n
  cell : Cells W B 25 [.slice A n c]
  ne : (Value.slice A n c).ownBlock ≠ some B
  bel : Below w.heap.size w W
  hb : w.heap.size ≤ B
section
variable {w W W' : World} {B n c : Nat} {A : Option Addr} {X : List Pr}
theorem VarR.keep (h : VarR w W B A n c X) (hb : Below W.heap.size W W') : VarR w W' B A n c X :=
  ⟨h.ln.keep hb, h.len, h.cell.keep hb, h.ne, h.bel.trans (hb.mono h.bel.size), h.hb⟩
theorem VarR.drew (h : VarR w W B A n c X) : VarR w W.drew B A n c X := h.keep (Below.refl _ _).drew
theorem VarR.parts (h : VarR w W B A n c X) : n ≤ c ∧ c ≤ maxLen ∧ (A = none → c = 0) ∧ LiesC W A (flatP X) := by
  obtain ⟨_, _, e, x1, x2, x3, x4, _⟩ := h.ln
  cases e
  exact ⟨x1, x2, x3, x4⟩
/-- Another block of the law's own is stored into. -/
theorem VarR.far (h : VarR w W B A n c X) {p : Addr} (hp : p.block ≠ B) (hq : (Value.slice A n c).ownBlock ≠ some p.block) (h0 : w.heap.size ≤ p.block) (u : Value) : VarR w (W.setCell p u) B A n c X :=
  ⟨h.ln.only ((Only.refl (fun i => i = p.block) W).setCell rfl u) (fun k hk e => hq (by rw [hk, e])), h.len, h.cell.far (fun e => hp e.symm) u, h.ne, h.bel.setCell h0 u, h.hb⟩
/-- A new line is stored into it. -/
theorem VarR.store (h : VarR w W B A n c X) (hb : Below W.heap.size W W') {A' : Option Addr} {n' c' : Nat} {X' : List Pr} (hl : LnIs W' (.slice A' n' c') n' (flatP X')) (hn : X'.length = n') (hf : (Value.slice A' n' c').ownBlock ≠ some B) :
    VarR w (W'.setCell ⟨B, 0, none⟩ (.slice A' n' c')) B A' n' c' X' :=
  ⟨hl.only ((Only.refl (fun i => i = B) W').setCell (p := ⟨B, 0, none⟩) rfl _) (fun k hk e => hf (by rw [hk, e])), hn, (h.cell.keep hb).set_ 0 _, hf, (h.bel.trans (hb.mono h.bel.size)).setCell h.hb _, h.hb⟩
theorem VarR.new (hB : Below w.heap.size w W) (hl : LnIs W (.slice A n c) n (flatP X)) (hn : X.length = n) : VarR w (W.alloc (.cells #[.slice A n c] 25)) W.heap.size A n c X :=
  ⟨hl.keep ((Below.refl _ _).alloc (Nat.le_refl _) _), hn, Cells.new W #[.slice A n c] _, fun e => by have := hl.block _ e; omega, hB.alloc hB.size _, hB.size⟩
theorem far_ne {k : Nat} {v : Value} (h : Far k v) (hB : B < k) : v.ownBlock ≠ some B := fun e => by have := h B e; omega
end

theorem lineTurns_long (A D : Option Addr) (c d : Nat) (L M : List Pr) (h : 100 < L.length ∨ 100 < M.length) (hL : L.length ≤ 9223372036854775807) (hM : M.length ≤ 9223372036854775807) (w : World) :
    Calls Try.prog 5 #[.slice A L.length c, .slice D M.length d] w fun e w' => e = .returned (.bool true) ∧ Below w.heap.size w w' := by
  have C9 := Lib.hid fun W => lives_any W
  generalize L.length = n at *
  generalize M.length = m at *
  by_cases h1 : 100 < n
  all_goals
    go_enter Try.func5, Try.ntmps5
    go_wp2_with (go_at_call 6; refine (C9.out _).mono ?_; rintro e w' ⟨rfl, hb⟩)
    all_goals first
      | (exfalso; omega)
      | (go_ret; exact ⟨rfl, hb⟩)

theorem drop_cons {X : List Pr} {j : Nat} (h : j < X.length) : X.drop j = nthP X j :: X.drop (j + 1) := by
  rw [List.drop_eq_getElem_cons h]
  congr 1
  simp [nthP, List.getD, h]
/-- Where the j-th of two lists comes from. -/
theorem nth_both (L M : List Pr) (j : Nat) {n : Nat} (hn : L.length = n) : (j < n → nthP (L ++ M) j = nthP L j) ∧ (n ≤ j → nthP (L ++ M) j = nthP M (j - n)) := by
  subst hn
  exact ⟨fun h => by simp [nthP, List.getD, List.getElem?_append_left h], fun h => by simp [nthP, List.getD, List.getElem?_append_right h]⟩
theorem ownBlock_slice (A : Option Addr) (n c n' c' : Nat) : (Value.slice A n c).ownBlock = (Value.slice A n' c').ownBlock := by cases A <;> rfl
theorem take_next (L M : List Pr) {k : Nat} (hk : k < M.length) : L ++ M.take k ++ [nthP M k] = L ++ M.take (k + 1) := by
  rw [List.append_assoc, List.take_add_one]
  congr 2
  simp [nthP, List.getD, hk]
set_option maxHeartbeats 2000000 in
theorem lineTurns_short (A D : Option Addr) (c d : Nat) (L M : List Pr) (hL : L.length ≤ 100) (hM : M.length ≤ 100) (w : World) (hA : LiesC w A (flatP L)) (hD : LiesC w D (flatP M)) :
    Calls Try.prog 5 #[.slice A L.length c, .slice D M.length d] w fun e w' => e = .returned (.bool true) ∧ Below w.heap.size w w' := by
  have C9 := Lib.hid fun W => lives_any W
  have C1 := Lib.hid (lnPOf_any A c L (by omega) w hA)
  have C2 := Lib.hid fun A' c' X x W h0 h1 h2 h3 h4 => lnPPush_any A' c' X h0 h1 h2 h3 x W h4
  have C3 := Lib.hid fun A' c' x X W h0 h1 h2 h4 => lnPPop_some A' c' x X h0 h1 h2 W h4
  have C4 := Lib.hid fun A' c' W => lnPPop_nil A' c' W
  have C5 := Lib.hid fun A' n' c' W => lnPLen_any A' n' c' W
  generalize hm : L.length = n at *
  generalize hm2 : M.length = m at *
  have HM := Lib.hid (And.intro hm hm2); clear hm hm2
  have HA := Lib.hid (And.intro hA hD); clear hA hD
  go_enter Try.func5, Try.ntmps5
  go_upto_region 4 with (go_at_call 7; refine C1.out.mono ?_; rintro e w1 ⟨v, rfl, h1, -, hb⟩; have H1 := Lib.hid (And.intro h1 hb); obtain ⟨A1, c1, rfl, -⟩ := h1; clear hb)
  obtain ⟨W1, hW1⟩ : ∃ W1, w1.alloc (.cells #[.slice A1 n c1] 25) = W1 := ⟨_, rfl⟩
  have V1 : VarR w W1 w1.heap.size A1 n c1 L := by rw [← hW1]; exact VarR.new H1.out.2 H1.out.1 HM.out.1
  rw [hW1]
  clear hW1 H1
  generalize w1.heap.size = g1 at *
  clear w1
  have R1 := Lib.hid V1; clear V1
  go_wp2_with fail
  go_loopw [6] (fun i wr => ∃ (k : Nat) (A' : Option Addr) (c' : Nat), i = .int .i64 k ∧ k ≤ m ∧ VarR w wr g1 A' (n + k) c' (L ++ M.take k)) (fun i _ => m - (intOf i).toNat)
  case atStart => exact ⟨0, A1, c1, rfl, Nat.zero_le _, by rw [List.take_zero, List.append_nil]; exact R1.out⟩
  case round =>
    clear R1
    obtain ⟨k, A2, c2, rfl, hk, R⟩ := hrel
    by_cases hlt : k < m
    · obtain ⟨b2, off2, rfl, _, hx⟩ := (HA.out.2.keep R.bel).atP (by rw [HM.out.2]; omega)
      obtain ⟨p0, p1⟩ := hx k (by rw [HM.out.2]; omega)
      have q0 := R.cell.cell0
      have hX : L ++ M.take k ++ [nthP M k] = L ++ M.take (k + 1) := take_next L M (by rw [HM.out.2]; omega)
      have hl : (L ++ M.take k).length = n + k := R.len
      obtain ⟨y1, y2, y3, -⟩ := R.parts
      have P2 := fun W h => C2.out A2 c2 (L ++ M.take k) (nthP M k) W (by rw [hl]; omega) (by rw [hl]; exact y1) y2 y3 h
      rw [hX, hl] at P2
      have HP := Lib.hid (fun W h => P2 W h)
      have HX := Lib.hid hX
      have HR := Lib.hid R
      clear R hx hX hl P2 C2 C1 C3
      generalize nthP M k = x at *
      have hw : IntKind.i64.wrap ((k : Int) + 1) = ((k + 1 : Nat) : Int) := by rw [IntKind.wrap_i64]; omega
      go_upto_region 7 with fail
      go_region_with (go_at_call 8; refine (HP.out _ HR.out.drew.parts.2.2.2).mono ?_; rintro e w2 ⟨v, rfl, h1, hf, hb⟩
                      obtain ⟨A3, c3, hv, hr1⟩ : ∃ A3 c3, v = .slice A3 (n + k + 1) c3 ∧ True := by obtain ⟨A3, c3, e, -⟩ := h1; exact ⟨A3, c3, e, trivial⟩
                      subst hv
                      have r0 := (HR.out.drew.cell.keep hb).cell0
                      have r1 := (HR.out.drew.cell.keep hb).frozen 0
                      have HS := Lib.hid (HR.out.drew.store hb h1 (by rw [← HX.out, List.length_append, HR.out.len]; rfl) (far_ne hf HR.out.drew.cell.lt)))
      all_goals
        clear r0 r1 q0 p0 p1 h1 hf hb
        go_wp2_with fail
        go_roundw
        case rel => exact ⟨k + 1, A3, c3, by go_num, by omega, HS.out⟩
        case measure => simp [intOf]; omega
    · obtain rfl : k = m := by omega
      have hfull : L ++ M.take k = L ++ M := by rw [List.take_of_length_le (by rw [HM.out.2]; omega)]
      rw [hfull] at R
      have R1 := Lib.hid R
      clear R hfull hlt C1 C2 hk
      go_wp2_with fail
      go_loopw [7] (fun i wr => ∃ (j r : Nat) (A' : Option Addr) (c' : Nat), i = .int .i64 j ∧ j + r = n + k ∧ VarR w wr g1 A' r c' ((L ++ M).drop j)) (fun i _ => n + k - (intOf i).toNat)
      case atStart => exact ⟨0, n + k, A2, c2, rfl, by omega, by rw [List.drop_zero]; exact R1.out⟩
      case round =>
        clear R1
        obtain ⟨j, r, A4, c4, rfl, hj, R⟩ := hrel
        have hsum : IntKind.i64.wrap ((n : Int) + (k : Int)) = (n : Int) + (k : Int) := by rw [IntKind.wrap_i64]; omega
        cases r with
        | zero =>
          have h3 : decide ((j : Int) < (n : Int) + (k : Int)) = false := decide_eq_false (by omega)
          have q0 := R.cell.cell0
          have HR := Lib.hid R
          clear R
          go_upto_region 16 with (go_at_call 9; refine (C4.out _ _ _).mono ?_; rintro e w2 ⟨rfl, hb⟩; have HS := Lib.hid (HR.out.keep hb); clear hb)
          obtain ⟨W3, hW3⟩ : ∃ W3, (w2.alloc (.cells #[.slice A4 0 c4] 25)).alloc (.cells #[.int .u64 0, .int .u64 0] 29) = W3 := ⟨_, rfl⟩
          have R3 : VarR w W3 g1 A4 0 c4 ((L ++ M).drop j) := by rw [← hW3]; exact HS.out.keep (((Below.refl _ w2).alloc (Nat.le_refl _) _).alloc (by simp) _)
          rw [hW3]
          clear hW3 q0 HR HS
          have q0 := R3.cell.cell0
          have HR := Lib.hid R3
          clear R3
          generalize w2.heap.size = g2
          clear w2
          go_wp2_with (first
            | (go_at_call 12; refine (C5.out _ _ _ _).mono ?_; rintro e w3 ⟨rfl, hb⟩; have HS := Lib.hid (HR.out.keep hb); clear hb)
            | (go_at_call 6; refine (C9.out _).mono ?_; rintro e w4 ⟨rfl, hb⟩; have HT := Lib.hid (HS.out.keep hb); clear hb))
          go_ret
          exact ⟨rfl, HT.out.bel⟩
        | succ r =>
          have h3 : decide ((j : Int) < (n : Int) + (k : Int)) = true := decide_eq_true (by omega)
          have hd : (L ++ M).drop j = nthP (L ++ M) j :: (L ++ M).drop (j + 1) := drop_cons (by rw [List.length_append, HM.out.1, HM.out.2]; omega)
          have hlr : ((L ++ M).drop (j + 1)).length = r := by have := R.len; rw [hd] at this; simpa using this
          rw [hd] at R
          have P3 := fun W h => C3.out A4 c4 (nthP (L ++ M) j) ((L ++ M).drop (j + 1)) W (by rw [hlr]; omega) (by rw [hlr]; exact R.parts.1) R.parts.2.1 h
          rw [hlr] at P3
          have HP := Lib.hid (fun W h => P3 W h)
          have HX := Lib.hid (nth_both L M j HM.out.1)
          have HLr := Lib.hid hlr
          have q0 := R.cell.cell0
          have HR := Lib.hid R
          clear R hd hlr P3
          generalize nthP (L ++ M) j = x at *
          go_upto_region 12 with (go_at_call 9; refine (HP.out _ HR.out.parts.2.2.2).mono ?_; rintro e w2 ⟨v, rfl, h1, hf, hb⟩; have H1 := Lib.hid (And.intro h1 (And.intro hf hb)); obtain ⟨A5, c5, rfl, -⟩ := h1; clear hb hf q0)
          obtain ⟨W3, hW3⟩ : ∃ W3, (w2.alloc (.cells #[.slice A5 r c5] 25)).alloc (.cells #[.int .u64 (x.a : Nat), .int .u64 (x.b : Nat)] 29) = W3 := ⟨_, rfl⟩
          have hb3 : Below w2.heap.size w2 W3 := by rw [← hW3]; exact ((Below.refl _ w2).alloc (Nat.le_refl _) _).alloc (by simp) _
          have B3 : Below wr.heap.size wr W3 := H1.out.2.2.trans (hb3.mono H1.out.2.2.size)
          have d1 : Cells W3 w2.heap.size 25 [.slice A5 r c5] := by rw [← hW3]; exact (Cells.new w2 #[.slice A5 r c5] _).alloc _
          have d2 : Cells W3 (w2.heap.size + 1) 29 [.int .u64 (x.a : Nat), .int .u64 (x.b : Nat)] := by
            rw [← hW3]
            have := Cells.new (w2.alloc (.cells #[.slice A5 r c5] 25)) #[.int .u64 (x.a : Nat), .int .u64 (x.b : Nat)] 29
            rw [World.size_alloc] at this
            exact this
          have hne : (Value.slice A5 r c5).ownBlock ≠ some g1 := by rw [H1.out.2.1, ownBlock_slice A4 0 0 (r + 1) c4]; exact HR.out.ne
          have R3 := HR.out.store B3 (H1.out.1.keep hb3) HLr.out hne
          have R2 := HR.out.keep B3
          rw [hW3]
          clear hW3 hb3 B3 hne HP C3 C4 C5
          generalize w2.heap.size = g2 at *
          clear H1 w2
          have q0 := R2.cell.cell0
          have q1 := R2.cell.frozen 0
          have k0 := d1.cell0
          have k1 := d2.cell0
          have k2 := d2.cell1
          have hbl := R2.bel
          have HS := Lib.hid R3
          clear R2 d1 d2 R3
          have hw : IntKind.i64.wrap ((j : Int) + 1) = ((j + 1 : Nat) : Int) := by rw [IntKind.wrap_i64]; omega
          have HQ : ∀ W, (binOp .neq 29 (.agg #[.int .u64 (x.a : Nat), .int .u64 (x.b : Nat)]) (.agg #[.int .u64 (x.a : Nat), .int .u64 (x.b : Nat)])).run Try.prog W = .ok (.bool false) W := fun W => by rw [neq_pr W x x, decide_eq_true rfl]; rfl
          by_cases hjn : j < n
          · obtain ⟨b2, off2, rfl, _, hx⟩ := (HA.out.1.keep hbl).atP (by rw [HM.out.1]; omega)
            obtain ⟨p0, p1⟩ := hx j (by rw [HM.out.1]; omega)
            rw [← HX.out.1 hjn] at p0 p1
            clear hx HX
            have t1 : decide ((j : Int) < (n : Int)) = true := decide_eq_true (by omega)
            have t2 : decide ((n : Int) ≤ (j : Int)) = false := decide_eq_false (by omega)
            have t3 : decide (n ≤ j) = false := decide_eq_false (by omega)
            have t4 : decide (j < n) = true := decide_eq_true hjn
            clear hbl
            go_region
            clear p0 p1 HQ
            go_wp2_with fail
            go_roundw
            case rel => exact ⟨j + 1, r, A5, c5, by go_num, by omega, HS.out.drew⟩
            case measure => simp [intOf]; omega
          · obtain ⟨i, hi⟩ : ∃ i, j - n = i := ⟨_, rfl⟩
            obtain ⟨b2, off2, rfl, _, hx⟩ := (HA.out.2.keep hbl).atP (by rw [HM.out.2]; omega)
            obtain ⟨p0, p1⟩ := hx i (by rw [HM.out.2]; omega)
            have hxx := HX.out.2 (by omega)
            rw [hi] at hxx
            rw [← hxx] at p0 p1
            clear hx HX hxx
            have t0 : IntKind.i64.wrap ((j : Int) - (n : Int)) = (i : Int) := by rw [IntKind.wrap_i64]; omega
            have t1 : decide ((j : Int) < (n : Int)) = false := decide_eq_false (by omega)
            have t2 : decide ((n : Int) ≤ (j : Int)) = true := decide_eq_true (by omega)
            have t3 : decide (n ≤ j) = true := decide_eq_true (by omega)
            have t4 : decide (j < n) = false := decide_eq_false hjn
            have t5 : i < k := by omega
            clear hbl
            go_region
            clear p0 p1 HQ
            go_wp2_with fail
            go_roundw
            case rel => exact ⟨j + 1, r, A5, c5, by go_num, by omega, HS.out.drew⟩
            case measure => simp [intOf]; omega

theorem lineTurns_walk (A D : Option Addr) (c d : Nat) (L M : List Pr) (hL : L.length ≤ 9223372036854775807) (hM : M.length ≤ 9223372036854775807) (w : World) (hA : LiesC w A (flatP L)) (hD : LiesC w D (flatP M)) :
    Calls Try.prog 5 #[.slice A L.length c, .slice D M.length d] w fun e w' => e = .returned (.bool true) ∧ Below w.heap.size w w' := by
  by_cases h : 100 < L.length ∨ 100 < M.length
  · exact lineTurns_long A D c d L M h hL hM w
  · exact lineTurns_short A D c d L M (by omega) (by omega) w hA hD
end Go.Proofs.Ytfklbbjmjkojjaa
