/- hist.May. -/
import Derived.Test.YtckcliimngeieaaInTurn
import Derived.Test.YtckcliimngeieaaHistTold
import Derived.Shelf.AbstractIn
namespace Go.Proofs.Ytckcliimngeieaa
open Go.ChangeShapes Go.WideShapes Go.ChangeAt Go.RowKit Go.Shelf
attribute [local go_sem] Oper.semAt_some

set_option maxRecDepth 100000 in
set_option maxHeartbeats 2000000 in
theorem hMay_any (A : Option Addr) (c : Nat) (L : List Ev) (hL : L.length ≤ 1000000) (w : World) (ha : LiesC w A (flatF evF L)) :
    Calls Try.prog 9 #[.slice A L.length c] w fun e w' => e = .returned (.bool (mayL L)) ∧ Below w.heap.size w w' := by
  refine (callsIn_wide (n := 8)).1 ?_
  have HA := Lib.hid ha
  have HML := Lib.hid (may_told L)
  clear ha
  generalize hm : L.length = m at *
  have HM := Lib.hid hm; clear hm
  have hf1 : Fence.wide.fn 18 := trivial
  have hf2 : Fence.wide.fn 24 := trivial
  refine callsIn_of_wp_marks Try.func9 rfl trivial ?_ rfl
  simp only [Try.ntmps9, List.size_toArray, List.length_cons, List.length_nil, Nat.reduceAdd, Nat.reduceSub, Array.replicate_succ, Array.replicate_zero, List.push_toArray, List.append_toArray, List.nil_append, List.cons_append]
  gi_wp2_with (gi_at_call 18; refine (callsIn_wide.2 (inTurn_any A m c _)).mono ?_; rintro e w' ⟨rfl, rfl⟩)
  have bR := (Boxed.new w 4 (.bool false)).alloc (.cells #[.slice A m c] 22)
  have bL := Boxed.new (w.alloc (.cells #[.bool false] 4)) 22 (.slice A m c)
  rw [World.size_alloc] at bL
  have hB0 : Below w.heap.size w ((w.alloc (.cells #[.bool false] 4)).alloc (.cells #[.slice A m c] 22)) := ((Below.refl _ w).alloc (Nat.le_refl _) _).alloc (by simp) _
  have hsz : ((w.alloc (.cells #[.bool false] 4)).alloc (.cells #[.slice A m c] 22)).heap.size = w.heap.size + 2 := by simp
  obtain ⟨W0, hW0⟩ : ∃ W0, (w.alloc (.cells #[.bool false] 4)).alloc (.cells #[.slice A m c] 22) = W0 := ⟨_, rfl⟩
  rw [hW0] at bR bL hB0 hsz ⊢
  clear hW0
  have hl0 := HA.out.keep hB0
  have hlt := ev_lt HA.out
  refine wpIn_rangeC (M := fun i => i = w.heap.size) rfl (by omega) (gf := 24) (lb := #[.pointer (some ⟨w.heap.size + 1, 0, none⟩)]) rfl trivial (enters_of Try.func24 (by kernel_rfl) rfl)
    (inTurn_stops (fun i => i = w.heap.size) (w.heap.size + 1) c A L (by rw [HM.out]; exact hL) W0 (fun i hi => by omega) (by omega) (fun a e h0 => by have := hlt a e h0; omega) (by rw [HM.out]; exact bL.cell) hl0)
    (Below.refl _ _) (fun i hi => by omega) (fun _ => rfl)
    (fun (pre : List (Nat × Int)) W => (Boxed W w.heap.size 4 (.bool false) ∧ Below w.heap.size w W) ∧ ∀ p ∈ pre, p.2 ≠ -1)
    (fun c (pre : List (Nat × Int)) W => (c = .ret ∧ ∃ p ∈ pre, p.2 = -1) ∧ Boxed W w.heap.size 4 (.bool false) ∧ Below w.heap.size w W)
    (AbC.and (fun s W W' hs ho => ⟨(ho.2 _ hs.1.lt (by omega)).trans hs.1, Below.only hs.2 ho hs.2.size (fun i hi => by omega)⟩) (AbC.pure _ _ _))
    (fun c => AbC.and (AbC.pure _ _ _) (fun s W W' hs ho => ⟨(ho.2 _ hs.1.lt (by omega)).trans hs.1, Below.only hs.2 ho hs.2.size (fun i hi => by omega)⟩))
    ⟨⟨bR, hB0⟩, fun p hp => by cases hp⟩
    (fun x a' W => a' = { tmps := #[.slice A m c, undef, .pointer (some ⟨w.heap.size, 0, none⟩), undef, .int .i64 x.2, .slice A m c, .func (.func 24) #[] #[.pointer (some ⟨w.heap.size + 1, 0, none⟩)], .int .i64 (x.1 : Int), .int .i64 x.2, undef, undef], defers := [] })
    (fun x a' => AbC.pure _ _ _)
    ?assign ?body ?done ?stop
  case assign =>
    rintro l pre ⟨i, v⟩ W K hz hi hK
    simp only [told2]
    gi_wp2
    exact hK _ _ (Below.refl _ _) rfl
  case body =>
    rintro l pre ⟨i, v⟩ a' W1 W n1 hz _ _ ⟨⟨hx, hb⟩, hp⟩ ho rfl _
    replace hb := Below.only hb ho hb.size (fun i hi => by omega)
    replace hx := (ho.2 _ hx.lt (by omega)).trans hx
    replace hx : Boxed W w.heap.size 4 (.bool false) := hx
    have k1 := hx.cell
    have k2 := hx.frozen
    by_cases h1 : v = -1
    · subst h1
      gi_wp2
      exact ⟨Only.setCell (Only.refl _ _) (p := ⟨w.heap.size, 0, none⟩) (.inl rfl) _, ⟨rfl, _, List.mem_append_right _ (List.mem_singleton.2 rfl), rfl⟩, hx.set _, hb.setCell (p := ⟨w.heap.size, 0, none⟩) (Nat.le_refl _) _⟩
    · gi_wp2
      refine ⟨Only.refl _ _, ⟨hx, hb⟩, fun p hp' => ?_⟩
      rcases List.mem_append.1 hp' with h | h
      · exact hp p h
      · rw [List.mem_singleton.1 h]; exact h1
  case done =>
    rintro ys W rfl ⟨⟨hx, hb⟩, hp⟩ hK
    have k1 := hx.cell
    have k2 := hx.frozen
    gi_wp2
    have hK' : (W.setCell ⟨w.heap.size, 0, none⟩ (.bool true)).heap[W0.heap.size]? = some (.deferred (some [])) := (Below.heap_setCell W ⟨w.heap.size, 0, none⟩ _ _ (by show _ ≠ w.heap.size; omega)).trans hK
    refine ⟨by simp, .inl ⟨_, _, rfl, run_takeDeferred hK', ?_⟩⟩
    have hc5 := ((hx.set (.bool true)).kept (grownBy_putObj' _ W0.heap.size (.deferred none)) (fun e => by have := Option.some.inj e; omega)).cell
    have hbb : Below w.heap.size w ((W.setCell ⟨w.heap.size, 0, none⟩ (.bool true)).putObj W0.heap.size (.deferred none)) := (hb.setCell (p := ⟨w.heap.size, 0, none⟩) (Nat.le_refl _) _).grown (grownBy_putObj' _ W0.heap.size (.deferred none)) (Nat.le_trans hb.size (by simp)) (fun k e => by have := Option.some.inj e; omega)
    refine ⟨.bool true, ?_, ?_, hbb⟩
    · simp [results, Try.f9, go_sem, hc5]
    · rw [HML.out, ← HM.out, show (toldUp L L.length).all (fun p => p.2 != -1) = true from List.all_eq_true.2 fun p h => by simpa using hp p h]
  case stop =>
    rintro c' pre W ⟨k, hk, rfl⟩ ⟨⟨rfl, p, hp, hv⟩, hx, hb⟩ hK
    have k1 := hx.cell
    gi_wp2
    refine ⟨by simp, .inl ⟨_, _, rfl, run_takeDeferred hK, ?_⟩⟩
    have hc5 := (hx.kept (grownBy_putObj' _ W0.heap.size (.deferred none)) (fun e => by have := Option.some.inj e; omega)).cell
    have hbb : Below w.heap.size w (W.putObj W0.heap.size (.deferred none)) := hb.grown (grownBy_putObj' _ W0.heap.size (.deferred none)) hb.size (fun k e => by have := Option.some.inj e; omega)
    refine ⟨.bool false, ?_, ?_, hbb⟩
    · simp [results, Try.f9, go_sem, hc5]
    · rw [HML.out, ← HM.out, show (toldUp L L.length).all (fun p => p.2 != -1) = false from List.all_eq_false.2 ⟨p, toldUp_mono hk hp, by rw [hv]; decide⟩]
end Go.Proofs.Ytckcliimngeieaa
