/- errors.as along a chain of errors, at a target of type an Error. -/
import Derived.Test.YtgbgemgpdaclaaaDoorErrsRl
import Derived.Lib.Builder
namespace Go.Proofs.YtgbgemgpdaclaaaDoor
open Go.ChangeShapes Go.WideShapes Go.RowKit Go.Extern.Stop Go.Stop Go.Extern

set_option maxHeartbeats 4000000 in
set_option maxRecDepth 100000 in
theorem asE_any (e : Errs) (tb b : Nat) (old : Value) (w : World) (he : e ≠ .no) (h : ErrsIs w e) (hb : w.cell? ⟨b, 0, none⟩ = some (.pointer (some ⟨tb, 0, none⟩))) (ht : w.cell? ⟨tb, 0, none⟩ = some old) (hf : w.frozen? ⟨tb, 0, none⟩ = false) :
    Calls Tryd.prog 32 #[e.val, .iface 51 (.pointer (some ⟨tb, 0, none⟩)), .agg #[.pointer (some ⟨4, 51, none⟩), .pointer (some ⟨b, 0, none⟩), .int .u64 150], .iface 89 (.agg #[.pointer (some ⟨4, 41, none⟩)])] w
      fun r w' => r = .returned (.bool e.fromIn.isSome) ∧ w'.cell? ⟨tb, 0, none⟩ = some (e.fromOr old) ∧ Below tb w w' := by
  have x1 := x_TypeOf; have x2 := x_Assg; have x3 := x_VElem; have x4 := x_Set; have x5 := x_ValueOf
  have c1 := tU_code; have c2 := tU_err; have c3 := tU_note; have c4 := tUs_code; have c5 := tA_code; have c6 := tA_err; have c7 := tA_note
  have m1 := mAssg; have m2 := mU_err; have m3 := mU_note; have o1 := tOf_code; have o2 := tOf_err; have o3 := tOf_note
  have a1 := asgE_code; have a2 := asgE_err; have a3 := asgE_note; have v1 := vOfE
  have hbl := World.block_lt_of_cell? _ _ hb
  have htl := World.block_lt_of_cell? _ _ ht
  have HE := Lib.hid he; have H := Lib.hid h
  have CB := Lib.hid hb; have CT := Lib.hid ht; have CF := Lib.hid hf
  clear he h hb ht hf
  go_enter Tryd.func32, Tryd.ntmps32
  go_upto_region 1 with fail
  generalize hW : World.alloc _ _ = W
  have hB : Below w.heap.size w W := by rw [← hW]; exact (Below.refl _ _).alloc (Nat.le_refl _) _
  have hbox : W.heap[w.heap.size]? = some (.cells #[.pointer (some ⟨4, 51, none⟩), .pointer (some ⟨b, 0, none⟩), .int .u64 150] 68 (0, 0)) := by rw [← hW]; exact heap_alloc_new _ _
  have k0 : W.cell? ⟨w.heap.size, 0, none⟩ = some (.pointer (some ⟨4, 51, none⟩)) := by rw [Lib.cell_of_heap hbox]; rfl
  have k1 : W.cell? ⟨w.heap.size, 1, none⟩ = some (.pointer (some ⟨b, 0, none⟩)) := by rw [Lib.cell_of_heap hbox]; rfl
  have k2 : W.cell? ⟨w.heap.size, 2, none⟩ = some (.int .u64 150) := by rw [Lib.cell_of_heap hbox]; rfl
  have H' := Lib.hid (H.out.below hB)
  have CB' := Lib.hid ((hB.cell hbl).trans CB.out)
  have CT' := Lib.hid ((hB.cell htl).trans CT.out)
  have CF' := Lib.hid ((hB.frozen htl).trans CF.out)
  have TL := Lib.hid (Nat.lt_of_lt_of_le htl hB.size)
  have HB := Lib.hid (hB.mono (Nat.le_of_lt htl))
  clear hB hbox hW hbl htl H CB CT CF
  generalize w.heap.size = bx at *
  go_loop [0] (fun a => ∃ x : Errs, a = x.val ∧ x ≠ .no ∧ x.fromIn = e.fromIn ∧ ErrsIs W x) (fun a => mV a)
  case atStart => exact ⟨e, rfl, HE.out, rfl, H'.out⟩
  case round =>
    obtain ⟨x, rfl, hx0, hxc, hx⟩ := hrel
    have HX := Lib.hid hx; have HC := Lib.hid hxc
    clear hx hxc
    cases x with
    | no => exact absurd rfl hx0
    | code c =>
      clear hx0
      simp only [Errs.val]
      go_wp2_with fail
      go_ret
      have hz : e.fromIn = none := HC.out.symm
      refine ⟨by rw [hz]; rfl, ?_, HB.out⟩
      have : e.fromOr old = old := by unfold Errs.fromOr; rw [hz]
      rw [this]; exact CT'.out
    | nilE =>
      clear hx0
      have el := elVE ⟨b, 0, none⟩ ⟨tb, 0, none⟩ W CB'.out
      have st := setE ⟨tb, 0, none⟩ ⟨W.heap.size, 0, none⟩ none old (W.alloc (.cells #[.pointer none] 41))
        (by rw [World.cell?_alloc_at _ _ _ _ (by simp)]; rfl)
        (by rw [World.cell?_alloc_lt _ _ _ TL.out]; exact CT'.out)
        (by rw [World.frozen?_alloc_old _ _ _ (Nat.ne_of_lt TL.out)]; exact CF'.out)
      simp only [Errs.val]
      go_wp2_with fail
      go_ret
      have hz : e.fromIn = some none := HC.out.symm
      refine ⟨by rw [hz]; rfl, ?_, ?_⟩
      · have : e.fromOr old = .pointer none := by unfold Errs.fromOr; rw [hz]
        rw [this]
        have hc : (W.alloc (.cells #[.pointer none] 41)).cell? ⟨tb, 0, none⟩ = some old := by rw [World.cell?_alloc_lt _ _ _ TL.out]; exact CT'.out
        exact World.cell?_setCell_same _ _ _ hc
      · exact (HB.out.trans ((Below.refl tb W).alloc (Nat.le_of_lt TL.out) _)).setCell (p := ⟨tb, 0, none⟩) (Nat.le_refl _) _
    | err g t l s i =>
      clear hx0
      have el := elVE ⟨b, 0, none⟩ ⟨tb, 0, none⟩ W CB'.out
      have st := setE ⟨tb, 0, none⟩ ⟨W.heap.size, 0, none⟩ (some ⟨g, 0, none⟩) old (W.alloc (.cells #[.pointer (some ⟨g, 0, none⟩)] 41))
        (by rw [World.cell?_alloc_at _ _ _ _ (by simp)]; rfl)
        (by rw [World.cell?_alloc_lt _ _ _ TL.out]; exact CT'.out)
        (by rw [World.frozen?_alloc_old _ _ _ (Nat.ne_of_lt TL.out)]; exact CF'.out)
      simp only [Errs.val]
      go_wp2_with fail
      go_ret
      have hz : e.fromIn = some (some g) := HC.out.symm
      refine ⟨by rw [hz]; rfl, ?_, ?_⟩
      · have : e.fromOr old = .pointer (some ⟨g, 0, none⟩) := by unfold Errs.fromOr; rw [hz]
        rw [this]
        have hc : (W.alloc (.cells #[.pointer (some ⟨g, 0, none⟩)] 41)).cell? ⟨tb, 0, none⟩ = some old := by rw [World.cell?_alloc_lt _ _ _ TL.out]; exact CT'.out
        exact World.cell?_setCell_same _ _ _ hc
      · exact (HB.out.trans ((Below.refl tb W).alloc (Nat.le_of_lt TL.out) _)).setCell (p := ⟨tb, 0, none⟩) (Nat.le_refl _) _
    | note g s i =>
      clear hx0
      have h3 := HX.out.2.2.1
      by_cases hi : i = .no
      · subst hi
        have hn : W.cell? ⟨g, 1, none⟩ = some .nilIface := h3
        clear h3
        simp only [Errs.val]
        go_wp2_with (go_at_call 73; refine (nUnwrap_any g .nilIface W hn).mono ?_; rintro r w' ⟨rfl, rfl⟩)
        go_ret
        have hz : e.fromIn = none := HC.out.symm
        refine ⟨by rw [hz]; rfl, ?_, HB.out⟩
        have : e.fromOr old = old := by unfold Errs.fromOr; rw [hz]
        rw [this]; exact CT'.out
      · obtain ⟨U, v, hv⟩ := val_iface i hi
        have HI := Lib.hid hi; have HV := Lib.hid hv
        rw [hv] at h3
        clear hi hv
        simp only [Errs.val]
        go_wp2_with (go_at_call 73; refine (nUnwrap_any g (.iface U v) W h3).mono ?_; rintro r w' ⟨rfl, rfl⟩)
        go_round
        case rel => exact ⟨i, HV.out.symm, HI.out, HC.out, HX.out.inner⟩
        case measure =>
          rw [← HV.out, mV_val]
          have := top_inner _ HX.out (by intro h; cases h)
          exact this
end Go.Proofs.YtgbgemgpdaclaaaDoor
