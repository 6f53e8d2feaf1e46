/- What a plan answers: how many words, its configuration, which kind a level's word is of. -/
import Derived.Test.YtncemjpfdblecaaPlanNew
import Derived.Test.YtncemjpfdblecaaPlanSpec
import Derived.Deep.QuietTactic
import Derived.BigQuiet
namespace Go.Proofs.Ytncemjpfdblecaa
open Go.ChangeShapes Go.WideShapes Go.ChangeAt Go.RowKit

/-- At a a plan of this configuration lies. -/
def PlanIs (w : World) (a : Addr) (c : Nat → Int) : Prop := mayB c = true ∧ Ok64 c ∧ a.spot = none ∧ a.off = 0 ∧ Row w a.block 49 55 (ints (planN c))
theorem PlanIs.keep {w w' : World} {a : Addr} {c : Nat → Int} (h : PlanIs w a c) (hb : Below w.heap.size w w') : PlanIs w' a c := ⟨h.1, h.2.1, h.2.2.1, h.2.2.2.1, h.2.2.2.2.keep hb⟩
theorem PlanIs.may {w : World} {a : Addr} {c : Nat → Int} (h : PlanIs w a c) : mayB c = true := h.1
theorem PlanIs.at_ {w : World} {a : Addr} {c : Nat → Int} (h : PlanIs w a c) : a = ⟨a.block, 0, none⟩ := by
  obtain ⟨b, o, s⟩ := a
  obtain ⟨_, _, h1, h2, _⟩ := h
  simp only at h1 h2
  subst h1 h2
  rfl
def GivesPlan (w : World) (c : Nat → Int) (e : Ending) (w' : World) : Prop := ∃ a, e = .returned (.tuple #[.pointer (some a), .int .i64 0]) ∧ PlanIs w' a c ∧ Below w.heap.size w w'
theorem pNew_yes (c : Nat → Int) (hc : Ok64 c) (hm : mayB c = true) (w : World) : Calls Try.prog 10 #[.agg (rowOf 14 (ints c))] w (GivesPlan w c) :=
  (pNew_row c hc hm w).mono fun _ _ ⟨g, h1, h2, h3⟩ => ⟨⟨g, 0, none⟩, h1, ⟨hm, hc, rfl, rfl, h2⟩, h3⟩

theorem planN_conf (c : Nat → Int) (i : Nat) (h : i < 14) : planN c i = c i := if_pos h
theorem planN_size (c : Nat → Int) : planN c 54 = 18 + c 11 + 6 * c 10 := rfl
theorem planN_part (c : Nat → Int) (i j : Nat) (hi : i < 10) (hj : j < 4) : planN c (14 + i * 4 + j) = partN c true i j := by
  show planT c 10 _ = _
  rw [planT_part c 10 i j hi hj, decide_eq_true hi]
theorem perN_int {c : Nat → Int} (hm : mayB c = true) : ((perN c : Nat) : Int) = 18 + c 11 + 6 * c 10 := by
  obtain ⟨-, -, -, b10, b11, -⟩ := may_bounds hm
  unfold perN; omega

theorem pConf_nil (w : World) : Calls Try.prog 9 #[.pointer none] w fun e w' => e = .returned (.agg (rowOf 14 (ints fun _ => 0))) ∧ Below w.heap.size w w' := by
  have f14 : #[Value.int .i64 0, Value.int .i64 0, Value.int .i64 0, Value.int .i64 0, Value.int .i64 0, Value.int .i64 0, Value.int .i64 0, Value.int .i64 0, Value.int .i64 0, Value.int .i64 0, Value.int .i64 0, Value.int .i64 0, Value.int .i64 0, Value.int .i64 0] = rowOf 14 (ints fun _ => 0) := rfl
  go_enter Try.func9, Try.ntmps9
  go_wp2_with (refine wpList_store_row rfl 24 _ _ rfl w.heap.size (rowOf 14 (ints fun _ => 0)) rfl rfl 24 (rowOf 14 (ints fun _ => 0)) (heap_alloc_new w _) (by kernel_rfl) rfl (ints_one _ _) ?_)
  rw [World.setRow_alloc_new]
  exact bodyPost_ret (results_cell_row (p := 2) (ty := 24) (by kernel_rfl) _ _ w.heap.size 24 (rowOf 14 (ints fun _ => 0)) (0, 0) _ rfl (heap_alloc_new w _) Try.underlying24 rfl (by kernel_rfl)) rfl ⟨rfl, (Below.refl _ _).alloc (Nat.le_refl _) _⟩
set_option maxRecDepth 100000 in
theorem pConf_any (a : Addr) (c : Nat → Int) (w : World) (h : PlanIs w a c) : Calls Try.prog 9 #[.pointer (some a)] w fun e w' => e = .returned (.agg (rowOf 14 (ints c))) ∧ Below w.heap.size w w' := by
  rw [h.at_]
  have hr := h.2.2.2.2
  generalize a.block = g at *
  clear h
  have f14 := fold14 c
  have f0 : #[Value.int .i64 0, Value.int .i64 0, Value.int .i64 0, Value.int .i64 0, Value.int .i64 0, Value.int .i64 0, Value.int .i64 0, Value.int .i64 0, Value.int .i64 0, Value.int .i64 0, Value.int .i64 0, Value.int .i64 0, Value.int .i64 0, Value.int .i64 0] = rowOf 14 (ints fun _ => 0) := rfl
  go_enter Try.func9, Try.ntmps9
  go_upto_region 1 with fail
  generalize hW : World.alloc _ _ = W
  have hq : Row W w.heap.size 24 14 (ints fun _ => 0) := by rw [← hW]; exact Row.new _ _ _ _ _ rfl
  have hB : Below w.heap.size w W := by rw [← hW]; exact (Below.refl _ _).alloc (Nat.le_refl _) _
  replace hr : Row W g 49 55 (ints (planN c)) := hr.keep hB
  clear hW
  generalize hz : w.heap.size = a1 at *
  have HZ := Lib.hid hz; clear hz
  have hc : ∀ i, i < 14 → W.cell? ⟨g, i, none⟩ = some (.int .i64 (c i)) := fun i hi => by rw [hr.cell (i := i) (by omega)]; unfold ints; rw [planN_conf c i hi]
  have u0 := hc 0 (by omega); have u1 := hc 1 (by omega); have u2 := hc 2 (by omega); have u3 := hc 3 (by omega); have u4 := hc 4 (by omega); have u5 := hc 5 (by omega); have u6 := hc 6 (by omega)
  have u7 := hc 7 (by omega); have u8 := hc 8 (by omega); have u9 := hc 9 (by omega); have u10 := hc 10 (by omega); have u11 := hc 11 (by omega); have u12 := hc 12 (by omega); have u13 := hc 13 (by omega)
  clear hc hr
  go_wp2_with (refine wpList_store_row rfl 24 _ _ rfl a1 (rowOf 14 (ints c)) rfl rfl 24 (rowOf 14 (ints fun _ => 0)) hq (by kernel_rfl) rfl (ints_one _ _) ?_)
  exact bodyPost_ret (results_cell_row (p := 2) (ty := 24) (by kernel_rfl) _ _ a1 24 (rowOf 14 (ints c)) (0, 0) _ rfl (hq.setRow_ _) Try.underlying24 rfl (by kernel_rfl)) rfl ⟨rfl, by rw [HZ.out]; exact below_setRow_ hB (by omega) _⟩

theorem pWords_nil (w : World) : Calls Try.prog 7 #[.pointer none] w fun e w' => e = .returned (.int .i64 0) ∧ Below w.heap.size w w' := by
  go_enter Try.func7, Try.ntmps7
  go_wp2_with fail
  go_ret
  exact ⟨rfl, Below.refl _ _⟩
set_option maxRecDepth 100000 in
theorem pWords_any (a : Addr) (c : Nat → Int) (w : World) (h : PlanIs w a c) : Calls Try.prog 7 #[.pointer (some a)] w fun e w' => e = .returned (.int .i64 (wordsN c : Nat)) ∧ Below w.heap.size w w' := by
  rw [h.at_]
  have hr := h.2.2.2.2
  obtain ⟨⟨c0, c0'⟩, -⟩ := may_bounds h.1
  have hw := words_bounds h.1
  have e1 : (wordsN c : Int) = c 0 * planN c 54 := by
    rw [planN_size, ← perN_int h.1]
    unfold wordsN
    rw [Int.natCast_mul]
    congr 1
    omega
  generalize a.block = g at *
  have hwr : Hid (wrap64 (c 0 * planN c 54) = (wordsN c : Nat)) := Lib.hid (by rw [← e1]; unfold wrap64; omega)
  clear h
  have u0 : w.cell? ⟨g, 0, none⟩ = some (.int .i64 (c 0)) := by rw [hr.cell (i := 0) (by omega)]; unfold ints; rw [planN_conf c 0 (by omega)]
  have u1 : w.cell? ⟨g, 54, none⟩ = some (.int .i64 (planN c 54)) := hr.cell (i := 54) (by omega)
  clear hr e1 hw
  generalize planN c 54 = s at *
  generalize (wordsN c : Nat) = n at *
  generalize c 0 = z at *
  go_enter Try.func7, Try.ntmps7
  go_wp2_with fail
  go_quiet (fail)
  go_wp2_with fail
  go_ret
  exact ⟨retI (by simpa using hwr.out), below_drewN (Below.refl _ _) _⟩
end Go.Proofs.Ytncemjpfdblecaa
