/- errors.Is at a code. -/
import Derived.Test.YtgbgemgpdaclaaaDoorErrsRl
namespace Go.Proofs.YtgbgemgpdaclaaaDoor
open Go.ChangeShapes Go.WideShapes Go.RowKit Go.Extern.Stop Go.Stop Go.Extern
section
variable (v : Value) (xT : TypeId) (w : World)
theorem tI_code : (Instr.typeAssert (.iface 22 v) xT 97 true).run Tryd.prog w = .ok (.tuple #[.nilIface, .bool false]) w := run_typeAssert_lacksB Tryd.underlying97 (by kernel_rfl) (by kernel_rfl) v xT w
theorem tI_err : (Instr.typeAssert (.iface 41 v) xT 97 true).run Tryd.prog w = .ok (.tuple #[.nilIface, .bool false]) w := run_typeAssert_lacksB Tryd.underlying97 (by kernel_rfl) (by kernel_rfl) v xT w
theorem tI_note : (Instr.typeAssert (.iface 58 v) xT 97 true).run Tryd.prog w = .ok (.tuple #[.nilIface, .bool false]) w := run_typeAssert_lacksB Tryd.underlying97 (by kernel_rfl) (by kernel_rfl) v xT w
end
/-- What is asked whether a type's values can be compared. -/
noncomputable def entComp : Array Value → Sem Value := (Extern.find Tryd.f79).getD fun _ => pure (.bool false)
theorem compC (w : World) : (entComp #[.agg #[.pointer (some ⟨4, 22, none⟩)]]).run Tryd.prog w = .ok (.bool true) w := by kernel_rfl
theorem cmpC : (Tryd.prog.info? 22).map (·.comparable) = some true := by kernel_rfl
theorem x_Comp (args : Array Value) (w : World) : (callFunc 79 args).run Tryd.prog w = ((entComp args).run Tryd.prog w).andThen fun v w' => .ok (.value v) w' :=
  run_callFunc_extern (e := entComp) Tryd.func79 (by kernel_rfl) (by kernel_rfl) (by kernel_rfl) (by kernel_rfl) args w
/-- Is it of that code? -/
def Errs.isC (e : Errs) (c : Int) : Bool := decide (e.codeIn = some c)

set_option maxHeartbeats 4000000 in
set_option maxRecDepth 100000 in
theorem is_any (e : Errs) (c : Int) (w : World) (he : e ≠ .no) (h : ErrsIs w e) : Calls Tryd.prog 37 #[e.val, .iface 22 (.int .i64 c), .bool true] w fun r w' => r = .returned (.bool (e.isC c)) ∧ w = w' := by
  have c1 := tU_code; have c2 := tU_err; have c3 := tU_note; have c4 := tUs_code; have c5 := tI_code; have c6 := tI_err; have c7 := tI_note
  have m2 := mU_err; have m3 := mU_note
  have q1 := fun (v : Value) (w : World) => run_eql_iface_types (P := Tryd.prog) 41 22 v (.int .i64 c) Tryd.underlying29 (by decide) w
  have q2 := fun (v : Value) (w : World) => run_eql_iface_types (P := Tryd.prog) 58 22 v (.int .i64 c) Tryd.underlying29 (by decide) w
  have q3 := fun (a : Int) (w : World) => Lib.run_eql_iface_int (P := Tryd.prog) (k := .i64) w a c Tryd.underlying29 cmpC Tryd.underlying22
  have HE := Lib.hid he; have H := Lib.hid h
  clear he h
  go_enter Tryd.func37, Tryd.ntmps37
  go_wp2_with fail
  go_loop [0] (fun a => ∃ x : Errs, a = x.val ∧ x ≠ .no ∧ x.codeIn = e.codeIn ∧ ErrsIs w x) (fun a => mV a)
  case atStart => exact ⟨e, rfl, HE.out, rfl, H.out⟩
  case round =>
    obtain ⟨x, rfl, hx0, hxc, hx⟩ := hrel
    have HX := Lib.hid hx; have HC := Lib.hid hxc
    clear hx hxc
    cases x with
    | no => exact absurd rfl hx0
    | code a =>
      clear hx0
      have hz : e.codeIn = some a := HC.out.symm
      have hd : e.isC c = (a == c) := by
        unfold Errs.isC
        rw [hz]
        by_cases hac : a = c
        · subst hac; simp
        · simp [hac]
      have HD := Lib.hid hd
      have q4 := q3 a w
      simp only [Errs.val]
      clear hd hz q3
      cases hac : (a == c) with
      | true =>
        rw [hac] at q4 HD
        go_wp2_with fail
        go_ret
        exact ⟨by rw [HD.out]; rfl, rfl⟩
      | false =>
        rw [hac] at q4 HD
        go_wp2_with fail
        go_ret
        exact ⟨by rw [HD.out]; rfl, rfl⟩
    | nilE =>
      clear hx0
      simp only [Errs.val]
      have hd : e.isC c = false := by unfold Errs.isC; rw [← HC.out]; simp [Errs.codeIn]
      have HD := Lib.hid hd
      clear hd
      go_wp2_with (go_at_call 18; refine (eUnwrap_nil _).mono ?_; rintro r w' ⟨rfl, rfl⟩)
      go_ret
      exact ⟨by rw [HD.out]; rfl, rfl⟩
    | err g t l s i =>
      clear hx0
      have h3 := HX.out.2.2.2.2.1
      by_cases hi : i = .no
      · subst hi
        have hn : w.cell? ⟨g, 3, none⟩ = some .nilIface := h3
        clear h3
        have hd : e.isC c = false := by unfold Errs.isC; rw [← HC.out]; simp [Errs.codeIn]
        have HD := Lib.hid hd
        clear hd
        simp only [Errs.val]
        go_wp2_with (go_at_call 18; refine (eUnwrap_any g .nilIface w hn).mono ?_; rintro r w' ⟨rfl, rfl⟩)
        go_ret
        exact ⟨by rw [HD.out]; rfl, rfl⟩
      · obtain ⟨U, v, hv⟩ := val_iface i hi
        have HI := Lib.hid hi; have HV := Lib.hid hv
        rw [hv] at h3
        clear hi hv
        simp only [Errs.val]
        go_wp2_with (go_at_call 18; refine (eUnwrap_any g (.iface U v) w h3).mono ?_; rintro r w' ⟨rfl, rfl⟩)
        go_round
        case rel => exact ⟨i, HV.out.symm, HI.out, HC.out, HX.out.inner⟩
        case measure =>
          rw [← HV.out, mV_val]
          have := top_inner _ HX.out (by intro h; cases h)
          exact this
    | note g s i =>
      clear hx0
      have h3 := HX.out.2.2.1
      by_cases hi : i = .no
      · subst hi
        have hn : w.cell? ⟨g, 1, none⟩ = some .nilIface := h3
        clear h3
        have hd : e.isC c = false := by unfold Errs.isC; rw [← HC.out]; simp [Errs.codeIn]
        have HD := Lib.hid hd
        clear hd
        simp only [Errs.val]
        go_wp2_with (go_at_call 73; refine (nUnwrap_any g .nilIface w hn).mono ?_; rintro r w' ⟨rfl, rfl⟩)
        go_ret
        exact ⟨by rw [HD.out]; rfl, rfl⟩
      · obtain ⟨U, v, hv⟩ := val_iface i hi
        have HI := Lib.hid hi; have HV := Lib.hid hv
        rw [hv] at h3
        clear hi hv
        simp only [Errs.val]
        go_wp2_with (go_at_call 73; refine (nUnwrap_any g (.iface U v) w h3).mono ?_; rintro r w' ⟨rfl, rfl⟩)
        go_round
        case rel => exact ⟨i, HV.out.symm, HI.out, HC.out, HX.out.inner⟩
        case measure =>
          rw [← HV.out, mV_val]
          have := top_inner _ HX.out (by intro h; cases h)
          exact this

theorem Is_any (e : Errs) (c : Int) (w : World) (h : ErrsIs w e) : Calls Tryd.prog 26 #[e.val, .iface 22 (.int .i64 c)] w fun r w' => r = .returned (.bool (e.isC c)) ∧ w = w' := by
  by_cases he : e = .no
  · subst he
    have hn := run_eql_iface_nil_left (P := Tryd.prog) w 22 (.int .i64 c) Tryd.underlying29
    show Calls Tryd.prog 26 #[.nilIface, .iface 22 (.int .i64 c)] w fun r w' => r = .returned (.bool false) ∧ w = w'
    clear h
    go_enter Tryd.func26, Tryd.ntmps26
    go_wp2
    go_ret
    exact ⟨rfl, rfl⟩
  have hA := is_any e c w he h
  obtain ⟨U, v, hv⟩ := val_iface e he
  have x1 := x_TypeOf; have x2 := x_Comp; have m1 := mComp; have t1 := tOf_code; have k1 := compC
  rw [hv] at hA ⊢
  clear hv h he
  go_enter Tryd.func26, Tryd.ntmps26
  go_wp2_with (go_at_call 37; refine hA.mono ?_; rintro r w' ⟨rfl, rfl⟩)
  go_ret
  exact ⟨rfl, rfl⟩
/-- fail.Is. -/
def Errs.isOf (e : Errs) (c : Int) : Bool := match e with | .no => decide (c = 0) | e => e.isC c
theorem fIs_any (e : Errs) (c : Int) (w : World) (h : ErrsIs w e) : Calls Tryd.prog 13 #[e.val, .int .i64 c] w fun r w' => r = .returned (.bool (e.isOf c)) ∧ w = w' := by
  by_cases he : e = .no
  · subst he
    show Calls Tryd.prog 13 #[.nilIface, .int .i64 c] w fun r w' => r = .returned (.bool (decide (c = 0))) ∧ w = w'
    clear h
    go_enter Tryd.func13, Tryd.ntmps13
    go_wp2
    go_ret
    exact ⟨rfl, rfl⟩
  have hA := Is_any e c w h
  have hd : e.isOf c = e.isC c := by cases e <;> first | rfl | exact absurd rfl he
  obtain ⟨U, v, hv⟩ := val_iface e he
  rw [hd]
  rw [hv] at hA ⊢
  clear hv h he hd
  go_enter Tryd.func13, Tryd.ntmps13
  go_wp2_with (go_at_call 26; refine hA.mono ?_; rintro r w' ⟨rfl, rfl⟩)
  go_ret
  exact ⟨rfl, rfl⟩
end Go.Proofs.YtgbgemgpdaclaaaDoor
