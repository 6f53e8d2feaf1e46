/- Package hist: start, begin, end, next: how far a history has come, as nine numbers. -/
import Derived.Test.YtckcliimngeieaaRef14
import Derived.Test.YtckcliimngeieaaOfL
import Derived.Test.YtckcliimngeieaaFrame
import Derived.Deep.WholeRow
import Derived.BigQuiet
namespace Go.Proofs.Ytckcliimngeieaa
open Go.ChangeShapes Go.WideShapes Go.ChangeAt Go.RowKit

def putF (f : Nat → Int) (k : Nat) (v : Int) : Nat → Int := fun i => if i = k then v else f i
def start9 : Nat → Int := fun i => if i = 8 then 0 else -1
/-- Which threads are within what, while start goes on. -/
def start9k (k : Nat) : Nat → Int := fun i => if i < k then -1 else 0
def begV (f : Nat → Int) (e : Ev) : Int := bif decide (e.a = zeroA) && (decide (f e.th.toNat = -1) && !decide (f 8 = 40)) then f 8 else -1
def begF (f : Nat → Int) (e : Ev) : Nat → Int := bif decide (e.a = zeroA) && (decide (f e.th.toNat = -1) && !decide (f 8 = 40)) then putF (putF f 8 (f 8 + 1)) e.th.toNat (f 8) else f
def endV (f : Nat → Int) (e : Ev) : Int := bif decide (e.c = zeroC) then f e.th.toNat else -1
def endF (f : Nat → Int) (e : Ev) : Nat → Int := bif decide (e.c = zeroC) then putF f e.th.toNat (-1) else f
def nextV (f : Nat → Int) (e : Ev) : Int := bif decide (e.th < 0) || decide (8 ≤ e.th) then -1 else bif e.back then endV f e else begV f e
def nextF (f : Nat → Int) (e : Ev) : Nat → Int := bif decide (e.th < 0) || decide (8 ≤ e.th) then f else bif e.back then endF f e else begF f e

/-- How far a history has come lies in a block; of what was there no other one has turned. -/
structure TurnR (w : World) (g : Nat) (f : Nat → Int) (w' : World) : Prop where
  row : Row w' g 63 9 (ints f)
  only : Only (fun i => i = g) w w'
theorem ints_put (f : Nat → Int) (k : Nat) (v : Int) : (fun i => if i = k then Value.int .i64 v else ints f i) = ints (putF f k v) := by
  funext i
  unfold ints putF
  split <;> rfl
theorem TurnR.refl {w : World} {g : Nat} {f : Nat → Int} (h : Row w g 63 9 (ints f)) : TurnR w g f w := ⟨h, Only.refl _ _⟩
theorem TurnR.set {w w' : World} {g : Nat} {f : Nat → Int} (h : TurnR w g f w') (k : Nat) (v : Int) : TurnR w g (putF f k v) (w'.setCell ⟨g, k, none⟩ (.int .i64 v)) :=
  ⟨by rw [← ints_put]; exact h.row.set_ k _, h.only.setCell rfl _⟩
theorem TurnR.keep {w w' w2 : World} {g : Nat} {f : Nat → Int} (h : TurnR w g f w') (hb : Below w'.heap.size w' w2) : TurnR w g f w2 := ⟨h.row.keep hb, h.only.then hb⟩
theorem TurnR.trans {w w' w2 : World} {g : Nat} {f f' : Nat → Int} (h : TurnR w g f w') (k : TurnR w' g f' w2) : TurnR w g f' w2 := ⟨k.row, h.only.trans k.only⟩

theorem start9k_put (k : Nat) : putF (start9k k) k (-1) = start9k (k + 1) := by
  funext i
  unfold putF start9k
  split
  · rw [if_pos (by omega)]
  · split
    · rw [if_pos (by omega)]
    · rw [if_neg (by omega)]
theorem start9_eq : rowOf 9 (ints (start9k 8)) = rowOf 9 (ints start9) := rowOf_congr fun i hi => by
  unfold ints start9k start9
  congr 1
  by_cases h : i < 8
  · rw [if_pos h, if_neg (by omega)]
  · rw [if_neg h, if_pos (by omega)]
theorem fold9 (f : Nat → Int) : #[Value.int .i64 (f 0), .int .i64 (f 1), .int .i64 (f 2), .int .i64 (f 3), .int .i64 (f 4), .int .i64 (f 5), .int .i64 (f 6), .int .i64 (f 7), .int .i64 (f 8)] = rowOf 9 (ints f) := by rfl

set_option maxRecDepth 100000 in
set_option maxHeartbeats 2000000 in
theorem hStart_any (w : World) : Calls Try.prog 25 #[] w fun e w' => e = .returned (.agg (rowOf 9 (ints start9))) ∧ Below w.heap.size w w' ∧ w'.heap.size = w.heap.size + 2 := by
  go_enter Try.func25, Try.ntmps25
  go_upto_region 2 with fail
  generalize hW : World.alloc _ _ = W
  obtain ⟨hB, hr, hq⟩ := two_blocks w 63 63 9 9 (ints fun _ => 0) (ints (start9k 0)) W hW
  have hs : W.heap.size = w.heap.size + 2 := by rw [← hW]; simp
  clear hW
  generalize hz : w.heap.size = a1 at *
  have HZ := Lib.hid hz; clear hz
  have HR := Lib.hid hr; have HB := Lib.hid hB; have HS := Lib.hid hs
  clear hr hB hs
  go_upto_region 3 with fail
  go_loopw [3] (fun i wr => ∃ k : Nat, i = .int .i64 k ∧ k ≤ 8 ∧ TurnR W (a1 + 1) (start9k k) wr ∧ wr.heap.size = W.heap.size) (fun i _ => 8 - (intOf i).toNat)
  case atStart => exact ⟨0, rfl, by omega, TurnR.refl hq, rfl⟩
  case round =>
    obtain ⟨k, rfl, hk, R, hsz⟩ := hrel
    by_cases hlt : k < 8
    · have p0 : wr.cell? ⟨a1 + 1, k, none⟩ = some (.int .i64 (start9k k k)) := R.row.cell (by omega)
      have p1 := R.row.frozen k
      have h8 : (k : Int) < 8 := by omega
      have HN := Lib.hid (R.set k (-1))
      have HH := Lib.hid hsz
      clear R hsz hq
      go_wp2_with fail
      go_roundw
      case rel => exact ⟨k + 1, by go_num, by omega, by rw [← start9k_put]; exact HN.out, by simp [HH.out]⟩
      case measure => simp [intOf]; omega
    · obtain rfl : k = 8 := by omega
      obtain ⟨x0, x1, x2, x3, x4, x5, x6, x7, x8⟩ : wr.cell? ⟨a1 + 1, 0, none⟩ = some (.int .i64 (start9k 8 0)) ∧ wr.cell? ⟨a1 + 1, 1, none⟩ = some (.int .i64 (start9k 8 1)) ∧ wr.cell? ⟨a1 + 1, 2, none⟩ = some (.int .i64 (start9k 8 2)) ∧ wr.cell? ⟨a1 + 1, 3, none⟩ = some (.int .i64 (start9k 8 3)) ∧ wr.cell? ⟨a1 + 1, 4, none⟩ = some (.int .i64 (start9k 8 4)) ∧ wr.cell? ⟨a1 + 1, 5, none⟩ = some (.int .i64 (start9k 8 5)) ∧ wr.cell? ⟨a1 + 1, 6, none⟩ = some (.int .i64 (start9k 8 6)) ∧ wr.cell? ⟨a1 + 1, 7, none⟩ = some (.int .i64 (start9k 8 7)) ∧ wr.cell? ⟨a1 + 1, 8, none⟩ = some (.int .i64 (start9k 8 8)) :=
        ⟨R.row.cell (by omega), R.row.cell (by omega), R.row.cell (by omega), R.row.cell (by omega), R.row.cell (by omega), R.row.cell (by omega), R.row.cell (by omega), R.row.cell (by omega), R.row.cell (by omega)⟩
      have hz1 : wr.heap[a1]? = some (.cells (rowOf 9 (ints fun _ => 0)) 63 (0, 0)) := HR.out.only R.only (by omega)
      have HO := Lib.hid R.only
      have HH := Lib.hid hsz
      have f9 := fold9 (start9k 8)
      have HE := Lib.hid start9_eq
      generalize start9k 8 = f at *
      clear R hsz hq
      have hbl : Below a1 w (wr.setRow a1 (rowOf 9 (ints f))) := below_setRow_ (Below.only HB.out HO.out (by rw [HS.out]; omega) (fun i hi => by omega)) (Nat.le_refl _) _
      have hbs : (wr.setRow a1 (rowOf 9 (ints f))).heap.size = a1 + 2 := by simp [World.setRow]; rw [HH.out, HS.out]
      have HL := Lib.hid (And.intro hbl hbs)
      clear hbl hbs
      go_wp2_with (refine wpList_store_row rfl 63 _ _ rfl a1 (rowOf 9 (ints f)) rfl rfl 63 (rowOf 9 (ints fun _ => 0)) hz1 (by kernel_rfl) rfl (ints_one _ _) ?_)
      exact bodyPost_ret (results_cell_row (p := 0) (ty := 63) (by kernel_rfl) _ _ a1 63 (rowOf 9 (ints f)) (0, 0) _ rfl (Row.setRow_ hz1 _) Try.underlying63 rfl (by kernel_rfl)) rfl ⟨by rw [HE.out], by rw [HZ.out]; exact HL.out.1, by rw [HZ.out]; exact HL.out.2⟩

theorem hEnd_any (g : Nat) (f : Nat → Int) (e : Ev) (h0 : 0 ≤ e.th) (h8 : e.th < 8) (w : World) (hr : Row w g 63 9 (ints f)) :
    Calls Try.prog 32 #[.pointer (some ⟨g, 0, none⟩), .agg (evF e).toArray] w fun r w' => r = .returned (.int .i64 (endV f e)) ∧ TurnR w g (endF f e) w' := by
  have HV := Lib.hid (show endV f e = bif decide (e.c = zeroC) then f e.th.toNat else -1 from rfl)
  have HF := Lib.hid (show endF f e = bif decide (e.c = zeroC) then putF f e.th.toNat (-1) else f from rfl)
  go_enter Try.func32, Try.ntmps32
  go_upto_region 1 with fail
  generalize hW : World.alloc _ _ = W
  obtain ⟨hb2, hx⟩ := one_cells _ _ _ W hW
  obtain ⟨q0, q1, q2, q3, q4, q5, q6, q7, q8, q9, q10, q11, q12, q13, q14⟩ := ev_cells (w := W) (b := w.heap.size) (o := 0) (x := e) (fun j _ => by rw [Nat.zero_add]; exact hx.cell j)
  simp only [Nat.zero_add] at q1 q2 q3 q4 q5 q6 q7 q8 q9 q10 q11 q12 q13 q14
  have hT : TurnR w g f W := (TurnR.refl hr).keep hb2
  have hgl := hr.lt
  clear hW hx hb2 hr
  generalize hz : w.heap.size = a1 at *
  have HZ := Lib.hid hz; clear hz
  have HQC : ∀ W, (binOp .neq 34 (.agg #[.int .i64 e.c.op, .int .i64 e.c.l, .int .i64 e.c.key, .int .u64 e.c.pa, .int .u64 e.c.pb, .int .u64 e.c.hd, .int .i64 e.c.r]) (.agg #[.int .i64 0, .int .i64 0, .int .i64 0, .int .u64 0, .int .u64 0, .int .u64 0, .int .i64 0])).run Try.prog W = .ok (.bool (!decide (e.c = zeroC))) W := fun W => neq_cl W e.c zeroC
  obtain ⟨t, ht⟩ : ∃ t : Nat, e.th = t := ⟨e.th.toNat, by omega⟩
  rw [ht] at q0 h0 h8 HV HF
  rw [Int.toNat_natCast] at HV HF
  have p0 : W.cell? ⟨g, t, none⟩ = some (.int .i64 (f t)) := hT.row.cell (by omega)
  have p1 := hT.row.frozen t
  have HT := Lib.hid hT
  have HN := Lib.hid (hT.set t (-1))
  clear hT
  cases hdc : decide (e.c = zeroC)
  · rw [hdc] at HV HF HQC
    go_wp2_with fail
    go_ret
    exact ⟨by rw [HV.out]; rfl, by rw [HF.out]; exact HT.out⟩
  · rw [hdc] at HV HF HQC
    go_upto_region 3 with fail
    go_quiet (fail)
    obtain ⟨W2, hW2⟩ : ∃ X, W.drewN nq = X := ⟨_, rfl⟩
    rw [hW2]
    have T2 : TurnR w g f W2 := by rw [← hW2]; exact HT.out.keep (below_drewN (Below.refl _ _) _)
    have e0 : W2.cell? ⟨a1, 0, none⟩ = some (.int .i64 t) := by rw [← hW2]; exact q0
    have e1 : W2.cell? ⟨g, t, none⟩ = some (.int .i64 (f t)) := T2.row.cell (by omega)
    have e2 := T2.row.frozen t
    have HN2 := Lib.hid (T2.set t (-1))
    clear q0 p0 p1 hW2 T2 HN HT
    go_upto_region 4 with fail
    go_region
    go_wp2_with fail
    go_ret
    exact ⟨by rw [HV.out]; rfl, by rw [HF.out]; exact HN2.out.keep (Below.refl _ _).drew⟩

theorem hBegin_any (g : Nat) (f : Nat → Int) (e : Ev) (h0 : 0 ≤ e.th) (h8 : e.th < 8) (hf0 : 0 ≤ f 8) (hf : f 8 ≤ 40) (w : World) (hr : Row w g 63 9 (ints f)) :
    Calls Try.prog 33 #[.pointer (some ⟨g, 0, none⟩), .agg (evF e).toArray] w fun r w' => r = .returned (.int .i64 (begV f e)) ∧ TurnR w g (begF f e) w' := by
  have HV := Lib.hid (show begV f e = bif decide (e.a = zeroA) && (decide (f e.th.toNat = -1) && !decide (f 8 = 40)) then f 8 else -1 from rfl)
  have HF := Lib.hid (show begF f e = bif decide (e.a = zeroA) && (decide (f e.th.toNat = -1) && !decide (f 8 = 40)) then putF (putF f 8 (f 8 + 1)) e.th.toNat (f 8) else f from rfl)
  go_enter Try.func33, Try.ntmps33
  go_upto_region 1 with fail
  generalize hW : World.alloc _ _ = W
  obtain ⟨hb2, hx⟩ := one_cells _ _ _ W hW
  obtain ⟨q0, q1, q2, q3, q4, q5, q6, q7, q8, q9, q10, q11, q12, q13, q14⟩ := ev_cells (w := W) (b := w.heap.size) (o := 0) (x := e) (fun j _ => by rw [Nat.zero_add]; exact hx.cell j)
  simp only [Nat.zero_add] at q1 q2 q3 q4 q5 q6 q7 q8 q9 q10 q11 q12 q13 q14
  have hT : TurnR w g f W := (TurnR.refl hr).keep hb2
  have hgl := hr.lt
  clear hW hx hb2 hr
  generalize hz : w.heap.size = a1 at *
  have HZ := Lib.hid hz; clear hz
  have HQA : ∀ W, (binOp .neq 37 (.agg #[.int .i64 e.a.e, .int .u64 e.a.a, .int .u64 e.a.b, .int .u64 e.a.h, .int .i64 e.a.n, .int .i64 e.a.k]) (.agg #[.int .i64 0, .int .u64 0, .int .u64 0, .int .u64 0, .int .i64 0, .int .i64 0])).run Try.prog W = .ok (.bool (!decide (e.a = zeroA))) W := fun W => neq_an W e.a zeroA
  obtain ⟨t, ht⟩ : ∃ t : Nat, e.th = t := ⟨e.th.toNat, by omega⟩
  rw [ht] at q0 h0 h8 HV HF
  rw [Int.toNat_natCast] at HV HF
  have p0 : W.cell? ⟨g, t, none⟩ = some (.int .i64 (f t)) := hT.row.cell (by omega)
  have p1 := hT.row.frozen t
  have p2 : W.cell? ⟨g, 8, none⟩ = some (.int .i64 (f 8)) := hT.row.cell (by omega)
  have p3 := hT.row.frozen 8
  have hw8 : IntKind.i64.wrap (f 8 + 1) = f 8 + 1 := by rw [IntKind.wrap_i64]; omega
  have HT := Lib.hid hT
  have HN := Lib.hid ((hT.set 8 (f 8 + 1)).set t (f 8))
  clear hT
  generalize hx8 : f 8 = b8 at *
  generalize hxt : f t = bt at *
  cases hda : decide (e.a = zeroA)
  · rw [hda] at HV HF HQA
    go_quiet (fail)
    go_wp2_with fail
    go_ret
    exact ⟨by rw [HV.out]; rfl, by rw [HF.out]; exact HT.out.keep (below_drewN (Below.refl _ _) _)⟩
  · rw [hda] at HV HF HQA
    by_cases h1 : bt = -1
    · by_cases h2 : b8 = 40
      · go_quiet (fail)
        go_wp2_with fail
        go_ret
        exact ⟨by rw [HV.out, h1, h2]; rfl, by rw [HF.out, h1, h2]; exact HT.out.keep (below_drewN (Below.refl _ _) _)⟩
      · go_quiet (fail)
        go_upto_region 5 with fail
        obtain ⟨W2, hW2⟩ : ∃ X, (W.drewN nq).setCell ⟨g, 8, none⟩ (.int .i64 (b8 + 1)) = X := ⟨_, rfl⟩
        rw [hW2]
        have T2 : TurnR w g (putF f 8 (b8 + 1)) W2 := by rw [← hW2]; exact (HT.out.keep (below_drewN (Below.refl _ _) _)).set 8 _
        have e0 : W2.cell? ⟨a1, 0, none⟩ = some (.int .i64 t) := by
          rw [← hW2]
          exact (show ((W.drewN nq).setCell ⟨g, 8, none⟩ (.int .i64 (b8 + 1))).cell? ⟨a1, 0, none⟩ = W.cell? ⟨a1, 0, none⟩ by
            unfold World.cell?
            rw [Below.heap_setCell (W.drewN nq) _ _ a1 (by show a1 ≠ g; omega)]; rfl).trans q0
        have e1 : W2.cell? ⟨g, t, none⟩ = some (.int .i64 (putF f 8 (b8 + 1) t)) := T2.row.cell (by omega)
        have e2 := T2.row.frozen t
        have HN2 := Lib.hid (T2.set t b8)
        generalize putF f 8 (b8 + 1) t = dk at *
        clear q0 p0 p1 p2 p3 hW2 T2 HN HT
        go_region
        go_wp2_with fail
        go_ret
        exact ⟨by rw [HV.out, decide_eq_false h2, decide_eq_true h1]; rfl, by rw [HF.out, decide_eq_false h2, decide_eq_true h1]; exact HN2.out.keep (Below.refl _ _).drew⟩
    · go_quiet (fail)
      go_wp2_with fail
      go_ret
      exact ⟨by rw [HV.out, decide_eq_false h1]; rfl, by rw [HF.out, decide_eq_false h1]; exact HT.out.keep (below_drewN (Below.refl _ _) _)⟩

theorem hNext_in (g : Nat) (f : Nat → Int) (th : Int) (bk : Bool) (cc : Cl) (aa : An) (hf0 : 0 ≤ f 8) (hf : f 8 ≤ 40) (w : World) (hr : Row w g 63 9 (ints f)) :
    Calls Try.prog 26 #[.pointer (some ⟨g, 0, none⟩), .agg (evF ⟨th, bk, cc, aa⟩).toArray] w fun r w' => r = .returned (.int .i64 (nextV f ⟨th, bk, cc, aa⟩)) ∧ TurnR w g (nextF f ⟨th, bk, cc, aa⟩) w' := by
  have HV := Lib.hid (show nextV f ⟨th, bk, cc, aa⟩ = bif decide (th < 0) || decide (8 ≤ th) then -1 else bif bk then endV f ⟨th, bk, cc, aa⟩ else begV f ⟨th, bk, cc, aa⟩ from rfl)
  have HF := Lib.hid (show nextF f ⟨th, bk, cc, aa⟩ = bif decide (th < 0) || decide (8 ≤ th) then f else bif bk then endF f ⟨th, bk, cc, aa⟩ else begF f ⟨th, bk, cc, aa⟩ from rfl)
  obtain ⟨e, he⟩ : ∃ e : Ev, ⟨th, bk, cc, aa⟩ = e := ⟨_, rfl⟩
  have hHC1 := fun (h0 : 0 ≤ th) (h8 : th < 8) W hT => hEnd_any g f ⟨th, bk, cc, aa⟩ h0 h8 W hT
  have hHC2 := fun (h0 : 0 ≤ th) (h8 : th < 8) W hT => hBegin_any g f ⟨th, bk, cc, aa⟩ h0 h8 hf0 hf W hT
  have HC1 := Lib.hid hHC1; have HC2 := Lib.hid hHC2
  clear hHC1 hHC2 he e
  go_enter Try.func26, Try.ntmps26
  go_upto_region 1 with fail
  generalize hW : World.alloc _ _ = W
  obtain ⟨hb2, hx⟩ := one_cells _ _ _ W hW
  obtain ⟨q0, q1, q2, q3, q4, q5, q6, q7, q8, q9, q10, q11, q12, q13, q14⟩ := ev_cells (w := W) (b := w.heap.size) (o := 0) (x := ⟨th, bk, cc, aa⟩) (fun j _ => by rw [Nat.zero_add]; exact hx.cell j)
  simp only [Nat.zero_add] at q1 q2 q3 q4 q5 q6 q7 q8 q9 q10 q11 q12 q13 q14
  dsimp only at q0 q1
  have hT : TurnR w g f W := (TurnR.refl hr).keep hb2
  have hgl := hr.lt
  clear hW hx hb2 hr
  generalize hz : w.heap.size = a1 at *
  have HZ := Lib.hid hz; clear hz
  have HT := Lib.hid hT
  clear hT
  by_cases h0 : 0 ≤ th
  · by_cases h8 : th < 8
    · have HD := Lib.hid (And.intro (decide_eq_false (show ¬ th < 0 by omega)) (decide_eq_false (show ¬ 8 ≤ th by omega)))
      cases bk
      · have C := Lib.hid (HC2.out h0 h8 W HT.out.row)
        clear HC1 HC2
        go_wp2_with (go_at_call 33; refine C.out.mono ?_; rintro r w1 ⟨rfl, hT1⟩; have HT1 := Lib.hid hT1; clear hT1)
        go_ret
        exact ⟨by rw [HV.out, HD.out.1, HD.out.2]; rfl, by rw [HF.out, HD.out.1, HD.out.2]; exact HT.out.trans HT1.out⟩
      · have C := Lib.hid (HC1.out h0 h8 W HT.out.row)
        clear HC1 HC2
        go_wp2_with (go_at_call 32; refine C.out.mono ?_; rintro r w1 ⟨rfl, hT1⟩; have HT1 := Lib.hid hT1; clear hT1)
        go_ret
        exact ⟨by rw [HV.out, HD.out.1, HD.out.2]; rfl, by rw [HF.out, HD.out.1, HD.out.2]; exact HT.out.trans HT1.out⟩
    · have HD := Lib.hid (And.intro (decide_eq_false (show ¬ th < 0 by omega)) (decide_eq_true (show 8 ≤ th by omega)))
      clear HC1 HC2
      go_wp2_with fail
      go_ret
      exact ⟨by rw [HV.out, HD.out.1, HD.out.2]; rfl, by rw [HF.out, HD.out.1, HD.out.2]; exact HT.out⟩
  · have HD := Lib.hid (decide_eq_true (show th < 0 by omega))
    clear HC1 HC2
    go_wp2_with fail
    go_ret
    exact ⟨by rw [HV.out, HD.out]; rfl, by rw [HF.out, HD.out]; exact HT.out⟩
theorem hNext_any (g : Nat) (f : Nat → Int) (e : Ev) (hf0 : 0 ≤ f 8) (hf : f 8 ≤ 40) (w : World) (hr : Row w g 63 9 (ints f)) :
    Calls Try.prog 26 #[.pointer (some ⟨g, 0, none⟩), .agg (evF e).toArray] w fun r w' => r = .returned (.int .i64 (nextV f e)) ∧ TurnR w g (nextF f e) w' :=
  hNext_in g f e.th e.back e.c e.a hf0 hf w hr
end Go.Proofs.Ytckcliimngeieaa
