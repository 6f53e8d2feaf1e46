/- The error that is made by what is said of it. -/
import Derived.Test.YtgbgemgpdaclaaaDoorErrsMade
import Derived.Test.YtgbgemgpdaclaaaDoorOpenErr
namespace Go.Proofs.YtgbgemgpdaclaaaDoor
open Go.ChangeShapes Go.WideShapes Go.RowKit

/-- What is known of the error behind k notes. -/
def MadeR (e : ErrS) (k : Nat) (x : Errs) : Prop :=
  (e.c = 0 ∧ x = .no) ∨ (e.c ≠ 0 ∧ x ≠ .no ∧ x.textE = textK e k ∧ x.codeIn = some e.c ∧ x.placeIn = some (e.t, e.l) ∧ x.deep = k + 1)
theorem MadeR.new (e : ErrS) (hc : e.c ≠ 0) (g : Nat) : MadeR e 0 (.err g e.t e.l e.what (.code e.c)) := Or.inr ⟨hc, fun h => (by cases h), rfl, rfl, rfl, rfl⟩
theorem MadeR.note {e : ErrS} {k : Nat} {x : Errs} (h : MadeR e k x) (hc : e.c ≠ 0) (g : Nat) : MadeR e (k + 1) (.note g (e.notes k) x) := by
  rcases h with ⟨h, _⟩ | ⟨_, hx, h1, h2, h3, h4⟩
  · exact absurd h hc
  · refine Or.inr ⟨hc, fun h => (by cases h), ?_, h2, h3, ?_⟩
    · show e.notes k ++ [58, 32] ++ x.textE = _
      rw [h1]; rfl
    · rw [deep_more (.note g (e.notes k) x) hx]
      show 1 + x.deep = _
      omega
theorem MadeR.ne {e : ErrS} {k : Nat} {x : Errs} (h : MadeR e k x) (hc : e.c ≠ 0) : x ≠ .no := by
  rcases h with ⟨h, _⟩ | ⟨_, hx, _⟩
  · exact absurd h hc
  · exact hx
theorem MadeR.no {e : ErrS} {k : Nat} {x : Errs} (h : MadeR e k x) (hc : e.c = 0) : x = .no := by
  rcases h with ⟨_, h⟩ | ⟨h, _⟩
  · exact h
  · exact absurd hc h

set_option maxHeartbeats 4000000 in
theorem of_any (A : Option Addr) (n cA : Nat) (e : ErrS) (he : OkE e n) (w : World) (hr : RowIs w A n (fun i => .string (sB (e.notes i)))) : Calls Tryd.prog 8 #[.agg (rowOf 5 (errV (.slice A n cA) e))] w
    fun r w' => ∃ x : Errs, r = .returned x.val ∧ MadeR e n x ∧ ErrsIs w' x ∧ Below w.heap.size w w' := by
  go_enter Tryd.func8, Tryd.ntmps8
  go_upto_region 1 with fail
  generalize hW : World.alloc _ _ = W
  have hx : Row W w.heap.size 25 5 (errV (.slice A n cA) e) := by rw [← hW]; exact Row.new _ _ _ _ _ rfl
  have hB : Below w.heap.size w W := by rw [← hW]; exact (Below.refl _ _).alloc (Nat.le_refl _) _
  have hlt : w.heap.size < W.heap.size := by rw [← hW]; simp
  clear hW
  generalize hz : w.heap.size = a1 at *
  have HZ := Lib.hid hz; clear hz
  have HB := Lib.hid hB; have HE := Lib.hid he; have HR := Lib.hid (hr.below (by rw [HZ.out]; exact hB)); have HLT := Lib.hid hlt
  obtain ⟨u0, u1, u2, u3, u4⟩ := err_cells hx
  clear hx hB he hr hlt
  by_cases hc : e.c = 0
  · have HC := Lib.hid hc
    rw [hc] at u3
    clear hc
    go_upto_region 2 with (go_at_call 19; refine (new_zero _ _ _ _).mono ?_; rintro r w1 ⟨rfl, rfl⟩)
    clear u0 u1 u2 u3
    go_wp2_with fail
    go_loop [3, 4] (fun a i => ∃ q : Nat, i = .int .i64 q ∧ q ≤ n ∧ a = .nilIface) (fun _ i => n - (intOf i).toNat)
    case atStart => exact ⟨0, rfl, Nat.zero_le _, rfl⟩
    case round =>
      obtain ⟨q, rfl, hq, rfl⟩ := hrel
      have n40 := HE.out.n40
      by_cases hlt : q < n
      · have t2 : decide (q < n) = true := by simp [hlt]
        obtain ⟨b, off, rfl, hb', hx⟩ := HR.out (by omega)
        have v0 : W.cell? ⟨b, off + q, none⟩ = some (.string (sB (e.notes q))) := hx q hlt
        clear hx
        go_wp2_with (go_at_call 16; refine (note_no _ _).mono ?_; rintro r w1 ⟨rfl, rfl⟩)
        go_round
        case rel => exact ⟨q + 1, by go_num, by omega, rfl⟩
        case measure => simp [intOf]; omega
      · have t2 : decide (q < n) = false := by simp; omega
        go_wp2_with fail
        go_ret
        exact ⟨.no, rfl, Or.inl ⟨HC.out, rfl⟩, True.intro, by rw [HZ.out]; exact HB.out⟩
  · have HC := Lib.hid hc
    clear hc
    go_upto_region 2 with (go_at_call 19; refine (new_any _ _ _ _ _ HC.out ⟨HE.out.t0, HE.out.t1⟩ ⟨HE.out.l0, HE.out.l1⟩ ⟨HE.out.c0, HE.out.c1⟩ HE.out.what).mono ?_; rintro r w1 ⟨rfl, hx1, hb1⟩)
    have HX1 := Lib.hid hx1
    have HB1 := Lib.hid (HB.out.trans (hb1.mono (Nat.le_of_lt HLT.out)))
    have c4 : w1.cell? ⟨a1, 4, none⟩ = some (.slice A n cA) := (hb1.cell HLT.out).trans u4
    have HR1 := Lib.hid (HR.out.below hb1)
    have HLT1 := Lib.hid (Nat.lt_of_lt_of_le HLT.out hb1.size)
    have HLE : Hid (a1 ≤ w1.heap.size) := Lib.hid (Nat.le_of_lt HLT1.out)
    clear u0 u1 u2 u3 u4 hx1 hb1 HR HB
    have HC4 := Lib.hid c4; clear c4
    go_wp2_with fail
    go_loopw [3, 4] (fun a i wr => ∃ (q : Nat) (x : Errs), i = .int .i64 q ∧ q ≤ n ∧ a = x.val ∧ MadeR e q x ∧ ErrsIs wr x ∧ Below w1.heap.size w1 wr) (fun _ i _ => n - (intOf i).toNat)
    case atStart => exact ⟨0, _, rfl, Nat.zero_le _, rfl, MadeR.new e HC.out _, HX1.out, Below.refl _ _⟩
    case round =>
      obtain ⟨q, x, rfl, hq, rfl, hm, hxx, hb⟩ := hrel
      have n40 := HE.out.n40
      have HM := Lib.hid hm; have HXX := Lib.hid hxx; have HBB := Lib.hid hb
      have c4 := (hb.cell HLT1.out).trans HC4.out
      have hrr := HR1.out.below hb
      clear hm hxx hb
      by_cases hlt : q < n
      · have t2 : decide (q < n) = true := by simp [hlt]
        obtain ⟨b, off, rfl, hb', hx⟩ := hrr (by omega)
        have v0 : wr.cell? ⟨b, off + q, none⟩ = some (.string (sB (e.notes q))) := hx q hlt
        clear hx
        go_wp2_with (go_at_call 16; refine (note_any _ x _ (HM.out.ne HC.out) HXX.out (HE.out.notes q hlt)).mono ?_; rintro r w2 ⟨rfl, hx2, hb2⟩)
        go_roundw
        case rel => exact ⟨q + 1, _, by go_num, by omega, rfl, HM.out.note HC.out _, hx2, HBB.out.trans (hb2.mono HBB.out.size)⟩
        case measure => simp [intOf]; omega
      · have t2 : decide (q < n) = false := by simp; omega
        obtain rfl : q = n := by omega
        clear hrr
        go_wp2_with fail
        go_ret
        exact ⟨x, rfl, HM.out, HXX.out, by rw [HZ.out]; exact HB1.out.trans (HBB.out.mono HLE.out)⟩
end Go.Proofs.YtgbgemgpdaclaaaDoor
