/- How deep an error is. -/
import Derived.Test.YtgbgemgpdaclaaaDoorErrs
namespace Go.Proofs.YtgbgemgpdaclaaaDoor
open Go.ChangeShapes Go.WideShapes Go.RowKit Go.Extern.Stop Go.Stop Go.Extern

theorem unwrap_any (e : Errs) (w : World) (h : ErrsIs w e) : Calls Tryd.prog 27 #[e.val] w fun r w' => r = .returned e.inner.val ∧ w = w' := by
  have c1 := tU_code; have c2 := tU_err; have c3 := tU_note; have c4 := tU_nil; have m2 := mU_err; have m3 := mU_note
  cases e with
  | code c =>
    simp only [Errs.val, Errs.inner]
    go_enter Tryd.func27, Tryd.ntmps27
    go_wp2
    go_ret
    exact ⟨rfl, rfl⟩
  | nilE =>
    simp only [Errs.val, Errs.inner]
    go_enter Tryd.func27, Tryd.ntmps27
    go_wp2_with (go_at_call 18; refine (eUnwrap_nil _).mono ?_; rintro e w' ⟨rfl, rfl⟩)
    go_ret
    exact ⟨rfl, rfl⟩
  | no =>
    simp only [Errs.val, Errs.inner]
    go_enter Tryd.func27, Tryd.ntmps27
    go_wp2
    go_ret
    exact ⟨rfl, rfl⟩
  | err g t l s i =>
    have h3 := h.2.2.2.2.1
    show Calls Tryd.prog 27 #[.iface 41 (.pointer (some ⟨g, 0, none⟩))] w fun r w' => r = .returned i.val ∧ w = w'
    clear h
    generalize i.val = v at *
    go_enter Tryd.func27, Tryd.ntmps27
    go_wp2_with (go_at_call 18; refine (eUnwrap_any _ _ _ h3).mono ?_; rintro e w' ⟨rfl, rfl⟩)
    go_ret
    exact ⟨rfl, rfl⟩
  | note g s i =>
    have h3 := h.2.2.1
    show Calls Tryd.prog 27 #[.iface 58 (.pointer (some ⟨g, 0, none⟩))] w fun r w' => r = .returned i.val ∧ w = w'
    clear h
    generalize i.val = v at *
    go_enter Tryd.func27, Tryd.ntmps27
    go_wp2_with (go_at_call 73; refine (nUnwrap_any _ _ _ h3).mono ?_; rintro e w' ⟨rfl, rfl⟩)
    go_ret
    exact ⟨rfl, rfl⟩
theorem deepest_any (e : Errs) (w : World) : Calls Tryd.prog 28 #[e.val] w fun r w' => r = .returned (.int .i64 0) ∧ w = w' := by
  have c1 := tUs_code; have c2 := tUs_err; have c3 := tUs_note; have c4 := tUs_nil
  cases e <;> (simp only [Errs.val]; go_enter Tryd.func28, Tryd.ntmps28; go_wp2; go_ret; exact ⟨rfl, rfl⟩)
theorem deep_any (e : Errs) (w : World) (h : ErrsIs w e) (hd : e.deep ≤ 1000) : Calls Tryd.prog 14 #[e.val] w fun r w' => r = .returned (.int .i64 e.deep) ∧ w = w' := by
  have H := Lib.hid h; have HD := Lib.hid hd; clear h hd
  go_enter Tryd.func14, Tryd.ntmps14
  go_wp2_with (go_at_call 27; refine (unwrap_any _ _ H.out).mono ?_; rintro r w' ⟨rfl, rfl⟩)
  go_loop [0, 3, 4] (fun a b c => ∃ (x : Errs) (n : Nat), a = x.val ∧ b = .int .i64 n ∧ c = x.inner.val ∧ n + x.deep = e.deep ∧ ErrsIs w x) (fun _ _ c => mV c)
  case atStart => exact ⟨e, 0, rfl, rfl, rfl, by omega, H.out⟩
  case round =>
    obtain ⟨x, n, rfl, rfl, rfl, hn, hx⟩ := hrel
    have HX := Lib.hid hx; have HN := Lib.hid hn
    have hb : n ≤ 1000 := by have := HD.out; omega
    clear hx hn
    by_cases hy : x.inner = .no
    · have HZ := Lib.hid hy
      have hv : x.inner.val = .nilIface := by rw [hy]; rfl
      have e0 : (n : Nat) = e.deep := by have := HN.out; have := deep_no x hy; omega
      rw [hv]
      clear hy hv
      go_wp2_with (go_at_call 28; refine (deepest_any _ _).mono ?_; rintro r w' ⟨rfl, rfl⟩)
      go_ret
      exact ⟨rfl, rfl⟩
    · obtain ⟨T, v, hv⟩ := val_iface _ hy
      have hu := unwrap_any x.inner w HX.out.inner
      have HZ := Lib.hid hy; have HV := Lib.hid hv
      rw [hv] at hu ⊢
      clear hy hv
      go_wp2_with (go_at_call 27; refine hu.mono ?_; rintro r w' ⟨rfl, rfl⟩)
      go_round
      case rel =>
        refine ⟨x.inner, n + 1, HV.out.symm, by go_num, rfl, ?_, HX.out.inner⟩
        have := HN.out; have := deep_more x HZ.out; omega
      case measure =>
        rw [← HV.out, mV_val, mV_val]
        exact top_inner _ HX.out.inner HZ.out
end Go.Proofs.YtgbgemgpdaclaaaDoor
