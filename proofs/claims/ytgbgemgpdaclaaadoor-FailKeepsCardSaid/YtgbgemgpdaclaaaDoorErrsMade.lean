/- What makes errors: New, Note; the law's own of, lives. -/
import Derived.Test.YtgbgemgpdaclaaaDoorErrsText
import Derived.Test.YtgbgemgpdaclaaaDoorErrsAsk
import Derived.Test.YtgbgemgpdaclaaaDoorErrsIs
namespace Go.Proofs.YtgbgemgpdaclaaaDoor
open Go.ChangeShapes Go.WideShapes Go.RowKit Go.Extern.Stop Go.Stop Go.Extern

theorem ErrsIs.top_le {w : World} {e : Errs} (h : ErrsIs w e) : e.top ≤ w.heap.size + 1 := by
  cases e with
  | err g t l s i => have := h.1; show g + 2 ≤ _; omega
  | note g s i => have := h.1; show g + 2 ≤ _; omega
  | no => exact Nat.zero_le _
  | _ => exact Nat.succ_le_succ (Nat.zero_le _)
theorem new_zero (t l : Int) (s : ByteArray) (w : World) : Calls Tryd.prog 19 #[.int .i64 t, .int .i64 l, .string s, .int .i64 0] w fun r w' => r = .returned .nilIface ∧ w = w' := by
  go_enter Tryd.func19, Tryd.ntmps19
  go_wp2
  go_ret
  exact ⟨rfl, rfl⟩
theorem new_is (t l : Int) (s : List UInt8) (c : Int) (w : World) (bt : -9223372036854775808 ≤ t ∧ t ≤ 9223372036854775807) (bl : -9223372036854775808 ≤ l ∧ l ≤ 9223372036854775807) (bc : -9223372036854775808 ≤ c ∧ c ≤ 9223372036854775807) (hs : s.length ≤ 200) :
    ErrsIs (w.alloc (.cells #[.int .i64 t, .int .i64 l, .string (sB s), .iface 22 (.int .i64 c)] 45)) (.err w.heap.size t l s (.code c)) := by
  refine ⟨by simp, ?_, ?_, ?_, ?_, bt, bl, hs, ?_, bc⟩
  · simp
  · simp
  · simp
  · simp [Errs.val]
  · show 1 ≤ _; omega
theorem new_any (t l : Int) (s : List UInt8) (c : Int) (w : World) (hc : c ≠ 0) (bt : -9223372036854775808 ≤ t ∧ t ≤ 9223372036854775807) (bl : -9223372036854775808 ≤ l ∧ l ≤ 9223372036854775807) (bc : -9223372036854775808 ≤ c ∧ c ≤ 9223372036854775807) (hs : s.length ≤ 200) :
    Calls Tryd.prog 19 #[.int .i64 t, .int .i64 l, .string (sB s), .int .i64 c] w fun r w' => r = .returned (Errs.err w.heap.size t l s (.code c)).val ∧ ErrsIs w' (.err w.heap.size t l s (.code c)) ∧ Below w.heap.size w w' := by
  have hI := Lib.hid (new_is t l s c w bt bl bc hs)
  generalize sB s = S at *
  clear hs
  go_enter Tryd.func19, Tryd.ntmps19
  go_wp2
  go_ret
  exact ⟨rfl, hI.out, (Below.refl _ _).alloc (Nat.le_refl _) _⟩
theorem note_no (s : ByteArray) (w : World) : Calls Tryd.prog 16 #[.string s, .nilIface] w fun r w' => r = .returned .nilIface ∧ w = w' := by
  go_enter Tryd.func16, Tryd.ntmps16
  go_wp2
  go_ret
  exact ⟨rfl, rfl⟩
theorem note_is (s : List UInt8) (e : Errs) (w : World) (h : ErrsIs w e) (hs : s.length ≤ 200) : ErrsIs (w.alloc (.cells #[.string (sB s), e.val] 60)) (.note w.heap.size s e) := by
  refine ⟨by simp, ?_, ?_, hs, h.top_le, h.below ((Below.refl _ _).alloc (Nat.le_refl _) _)⟩
  · simp
  · simp
theorem note_any (s : List UInt8) (e : Errs) (w : World) (he : e ≠ .no) (h : ErrsIs w e) (hs : s.length ≤ 200) :
    Calls Tryd.prog 16 #[.string (sB s), e.val] w fun r w' => r = .returned (Errs.note w.heap.size s e).val ∧ ErrsIs w' (.note w.heap.size s e) ∧ Below w.heap.size w w' := by
  have hI := Lib.hid (note_is s e w h hs)
  obtain ⟨U, v, hv⟩ := val_iface e he
  generalize sB s = S at *
  rw [hv] at hI ⊢
  clear h hs hv he
  go_enter Tryd.func16, Tryd.ntmps16
  go_wp2
  go_ret
  exact ⟨rfl, hI.out, (Below.refl _ _).alloc (Nat.le_refl _) _⟩
/-- The chapter's example. -/
theorem lives_text (g : Nat) : sB (Errs.err g 1 0 [112, 117, 116] (.code 8)).textE = ⟨#[116, 104, 114, 101, 97, 100, 32, 49, 32, 108, 101, 118, 101, 108, 32, 48, 32, 112, 117, 116, 58, 32, 102, 117, 108, 108]⟩ := by
  have h1 : numL 1 = [49] := by unfold numL; rw [decN_small (by decide)]; rfl
  have h0 : numL 0 = [48] := by unfold numL; rw [decN_small (by decide)]; rfl
  simp only [Errs.textE, headL, h1, h0]
  rfl
theorem new_put (w : World) : Calls Tryd.prog 19 #[.int .i64 1, .int .i64 0, .string ⟨#[112, 117, 116]⟩, .int .i64 8] w fun r w' => r = .returned (.iface 41 (.pointer (some ⟨w.heap.size, 0, none⟩))) ∧ ErrsIs w' (.err w.heap.size 1 0 [112, 117, 116] (.code 8)) ∧ Below w.heap.size w w' :=
  new_any 1 0 [112, 117, 116] 8 w (by decide) (by decide) (by decide) (by decide) (by decide)
theorem text_put (g : Nat) (w : World) (h : ErrsIs w (.err g 1 0 [112, 117, 116] (.code 8))) (ht : TabW w) : Calls Tryd.prog 10 #[.iface 41 (.pointer (some ⟨g, 0, none⟩))] w fun r w' => r = .returned (.string ⟨#[116, 104, 114, 101, 97, 100, 32, 49, 32, 108, 101, 118, 101, 108, 32, 48, 32, 112, 117, 116, 58, 32, 102, 117, 108, 108]⟩) ∧ Below w.heap.size w w' := by
  refine (text_any _ w h ht ?_).mono ?_
  · rw [← sB_size, lives_text]; decide
  · rintro r w' ⟨hr, hb⟩
    exact ⟨by rw [hr, lives_text], hb⟩
theorem lives_any (w : World) (ht : TabW w) : Calls Tryd.prog 7 #[] w fun r w' => r = .returned (.bool true) ∧ Below w.heap.size w w' := by
  go_enter Tryd.func7, Tryd.ntmps7
  go_upto_region 2 with (go_at_call 19; refine (new_put _).mono ?_; rintro r w1 ⟨rfl, h1, hb1⟩)
  go_wp2_with (go_at_call 10; refine (text_put _ _ h1 (ht.below hb1)).mono ?_; rintro r w2 ⟨rfl, hb2⟩)
  go_ret
  exact ⟨rfl, hb1.trans (hb2.mono hb1.size)⟩
theorem deep_nil (w : World) : Calls Tryd.prog 14 #[.nilIface] w fun r w' => r = .returned (.int .i64 0) ∧ w = w' := deep_any .no w True.intro (Nat.zero_le _)
/-- (*Error).Error of a nil Error. -/
theorem error_nil (w : World) (ht : TabW w) : Calls Tryd.prog 17 #[.pointer none] w fun r w' => r = .returned (.string ⟨#[111, 107]⟩) ∧ Below w.heap.size w w' := by
  have hA := text_any .nilE w True.intro ht (by decide)
  have hA' : Calls Tryd.prog 10 #[.iface 41 (.pointer none)] w fun r w' => r = .returned (.string ⟨#[111, 107]⟩) ∧ Below w.heap.size w w' := hA
  clear hA
  go_enter Tryd.func17, Tryd.ntmps17
  go_wp2_with (go_at_call 10; refine hA'.mono ?_; rintro r w2 ⟨rfl, hb2⟩)
  go_ret
  exact ⟨rfl, hb2⟩
end Go.Proofs.YtgbgemgpdaclaaaDoor
