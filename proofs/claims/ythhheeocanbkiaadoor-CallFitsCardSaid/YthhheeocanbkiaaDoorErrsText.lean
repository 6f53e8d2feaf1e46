/- What an error tells. -/
import Derived.Test.YthhheeocanbkiaaDoorErrsBuild
import Derived.Test.YthhheeocanbkiaaDoorRef8Text
import Derived.WalkSmall
import Derived.Deep.RegionHeld3
namespace Go.Proofs.YthhheeocanbkiaaDoor
set_option linter.unusedSimpArgs false
open Go.ChangeShapes Go.WideShapes Go.RowKit Go.Extern.Stop Go.Stop Go.Extern

theorem tabG : Tryd.prog.globalNamed "internal/strconv.uint64pow10" = some 0 := by kernel_rfl
theorem TabW.below {w w' : World} (h : TabW w) (hb : Below w.heap.size w w') : TabW w' :=
  var?_below hb tabG (World.block_lt_of_cell? _ _ (Lib.TabIs.cell h tabG 0 (by decide))) h
/-- What an Error tells ahead of what it wraps. -/
def headL (t l : Int) (s : List UInt8) : List UInt8 := [116, 104, 114, 101, 97, 100, 32] ++ numL t ++ [32, 108, 101, 118, 101, 108, 32] ++ numL l ++ [32] ++ s ++ [58, 32]
def Errs.textE : Errs → List UInt8
  | .code c => nameL c
  | .nilE => [111, 107]
  | .no => [111, 107]
  | .err _ t l s i => headL t l s ++ i.textE
  | .note _ s i => s ++ [58, 32] ++ i.textE
theorem head_len (t l : Int) (s : List UInt8) (ht : -9223372036854775808 ≤ t ∧ t ≤ 9223372036854775807) (hl : -9223372036854775808 ≤ l ∧ l ≤ 9223372036854775807) (hs : s.length ≤ 200) : (headL t l s).length ≤ 259 := by
  have h1 := num_len t ht.1 ht.2
  have h2 := num_len l hl.1 hl.2
  unfold headL
  simp only [List.length_append, List.length_cons, List.length_nil]
  omega

set_option maxHeartbeats 4000000 in
theorem head_any (g : Nat) (t l : Int) (s : List UInt8) (w : World) (ht : TabW w) (ct : w.cell? ⟨g, 0, none⟩ = some (.int .i64 t)) (cl : w.cell? ⟨g, 1, none⟩ = some (.int .i64 l)) (cs : w.cell? ⟨g, 2, none⟩ = some (.string (sB s)))
    (bt : -9223372036854775808 ≤ t ∧ t ≤ 9223372036854775807) (bl : -9223372036854775808 ≤ l ∧ l ≤ 9223372036854775807) (hs : s.length ≤ 200) :
    Calls Tryd.prog 29 #[.pointer (some ⟨g, 0, none⟩)] w fun r w' => r = .returned (.string (sB (headL t l s))) ∧ Below w.heap.size w w' := by
  have C1 := Lib.hid (fun W hW => itoa_any t bt.1 bt.2 W hW)
  have C2 := Lib.hid (fun W hW => itoa_any l bl.1 bl.2 W hW)
  have hB := Below.refl w.heap.size w
  generalize hz : w.heap.size = a1 at *
  have HZ := Lib.hid hz; clear hz
  have HB := Lib.hid hB; clear hB
  obtain ⟨z1, z2, z3⟩ : (sB (numL t)).size ≤ 21 ∧ (sB (numL l)).size ≤ 21 ∧ (sB s).size ≤ 200 := ⟨by rw [sB_size]; exact num_len _ bt.1 bt.2, by rw [sB_size]; exact num_len _ bl.1 bl.2, by rw [sB_size]; exact hs⟩
  generalize hq1 : sB (numL t) = q1 at *
  generalize hq2 : sB (numL l) = q2 at *
  generalize hq3 : sB s = q3 at *
  have HQ := Lib.hid (show _ ∧ _ ∧ _ from ⟨hq1, hq2, hq3⟩)
  clear hq1 hq2 hq3 bt bl hs
  have HTW := Lib.hid ht; clear ht
  go_enter Tryd.func29, Tryd.ntmps29
  go_upto_region 3 with fail
  have hst : (fun w' : World => Below a1 w w' ∧ TabW w' ∧ w'.cell? ⟨g, 0, none⟩ = some (.int .i64 t) ∧ w'.cell? ⟨g, 1, none⟩ = some (.int .i64 l) ∧ w'.cell? ⟨g, 2, none⟩ = some (.string q3)) w.drew := ⟨HB.out.drew, HTW.out, ct, cl, cs⟩
  have hkeep : ∀ w1 w2 : World, Below w1.heap.size w1 w2 → (fun w' : World => Below a1 w w' ∧ TabW w' ∧ w'.cell? ⟨g, 0, none⟩ = some (.int .i64 t) ∧ w'.cell? ⟨g, 1, none⟩ = some (.int .i64 l) ∧ w'.cell? ⟨g, 2, none⟩ = some (.string q3)) w1 → (fun w' : World => Below a1 w w' ∧ TabW w' ∧ w'.cell? ⟨g, 0, none⟩ = some (.int .i64 t) ∧ w'.cell? ⟨g, 1, none⟩ = some (.int .i64 l) ∧ w'.cell? ⟨g, 2, none⟩ = some (.string q3)) w2 := fun w1 w2 hb h =>
    ⟨below_on h.1 (Nat.le_of_eq HZ.out.symm) hb, h.2.1.below hb, cell_keep hb h.2.2.1, cell_keep hb h.2.2.2.1, cell_keep hb h.2.2.2.2⟩
  have HST := Lib.hid hst
  clear hst ct cl cs HTW
  have y1 : (9223372036854775807 < 7 + q1.size) = False := eq_false (by omega)
  generalize hL1 : (⟨#[116, 104, 114, 101, 97, 100, 32]⟩ : ByteArray) ++ q1 = s1 at *
  have x1 : s1.size ≤ 28 := by rw [← hL1, ByteArray.size_append]; show 7 + q1.size ≤ 28; omega
  have y2 : (9223372036854775807 < s1.size + 7) = False := eq_false (by omega)
  generalize hL2 : s1 ++ (⟨#[32, 108, 101, 118, 101, 108, 32]⟩ : ByteArray) = s2 at *
  have x2 : s2.size ≤ 35 := by rw [← hL2, ByteArray.size_append]; show s1.size + 7 ≤ 35; omega
  have y3 : (9223372036854775807 < s2.size + q2.size) = False := eq_false (by omega)
  generalize hL3 : s2 ++ q2 = s3 at *
  have x3 : s3.size ≤ 56 := by rw [← hL3, ByteArray.size_append]; show s2.size + q2.size ≤ 56; omega
  have y4 : (9223372036854775807 < s3.size + 1) = False := eq_false (by omega)
  generalize hL4 : s3 ++ (⟨#[32]⟩ : ByteArray) = s4 at *
  have x4 : s4.size ≤ 57 := by rw [← hL4, ByteArray.size_append]; show s3.size + 1 ≤ 57; omega
  have y5 : (9223372036854775807 < s4.size + q3.size) = False := eq_false (by omega)
  generalize hL5 : s4 ++ q3 = s5 at *
  have x5 : s5.size ≤ 257 := by rw [← hL5, ByteArray.size_append]; show s4.size + q3.size ≤ 257; omega
  have y6 : (9223372036854775807 < s5.size + 2) = False := eq_false (by omega)
  generalize hL6 : s5 ++ (⟨#[58, 32]⟩ : ByteArray) = s6 at *
  have HB0 : Hid (s6 = sB (headL t l s)) := Lib.hid (by
    rw [← hL6, ← hL5, ← hL4, ← hL3, ← hL2, ← hL1, ← HQ.out.1, ← HQ.out.2.1, ← HQ.out.2.2]
    unfold headL
    simp only [← sB_append]
    rfl)
  refine wp_region_noPanic ?_
  refine wp_region_held_drew (S := fun w' => Below a1 w w' ∧ TabW w' ∧ w'.cell? ⟨g, 0, none⟩ = some (.int .i64 t) ∧ w'.cell? ⟨g, 1, none⟩ = some (.int .i64 l) ∧ w'.cell? ⟨g, 2, none⟩ = some (.string q3)) (by kernel_rfl) (HST.out) (fun hHeld => ?_)
  (refine wpAnyH_take (i := 0) (v := ?_) rfl (by kernel_rfl) (by kernel_rfl) (by kernel_rfl) (fun _ _ _ h => h) (Or.inl ⟨by rfl, ?_⟩) hHeld ?_; rotate_left; focus (intro w hSw; (try dsimp only at hSw); go_simp; (try with_reducible rfl)))
  try simp only [Act.put, List.getElem_toArray, List.getElem_cons_succ, List.getElem_cons_zero, List.setIfInBounds_toArray, List.set_cons_zero, List.set_cons_succ]
  (refine wpAnyH_take (i := 1) (v := ?_) rfl (by kernel_rfl) (by kernel_rfl) (by kernel_rfl) (fun _ _ _ h => h) (Or.inl ⟨by rfl, ?_⟩) hHeld ?_; rotate_left; focus (intro w hSw; (try dsimp only at hSw); go_simp; (try with_reducible rfl)))
  try simp only [Act.put, List.getElem_toArray, List.getElem_cons_succ, List.getElem_cons_zero, List.setIfInBounds_toArray, List.set_cons_zero, List.set_cons_succ]
  (refine wpAnyH_take (i := 2) (v := ?_) rfl (by kernel_rfl) (by kernel_rfl) (by kernel_rfl) (fun _ _ _ h => h) (Or.inl ⟨by rfl, ?_⟩) hHeld ?_; rotate_left; focus (intro w hSw; (try dsimp only at hSw); go_simp; (try with_reducible rfl)))
  try simp only [Act.put, List.getElem_toArray, List.getElem_cons_succ, List.getElem_cons_zero, List.setIfInBounds_toArray, List.set_cons_zero, List.set_cons_succ]
  (refine wpAnyH_take (i := 3) (v := ?_) rfl (by kernel_rfl) (by kernel_rfl) (by kernel_rfl) (fun _ _ _ h => h) (Or.inl ⟨by rfl, ?_⟩) hHeld ?_; rotate_left; focus (intro w hSw; (try dsimp only at hSw); go_simp; (try with_reducible rfl)))
  try simp only [Act.put, List.getElem_toArray, List.getElem_cons_succ, List.getElem_cons_zero, List.setIfInBounds_toArray, List.set_cons_zero, List.set_cons_succ]
  (refine wpAnyH_take (i := 7) (v := ?_) rfl (by kernel_rfl) (by kernel_rfl) (by kernel_rfl) (fun _ _ _ h => h) (Or.inl ⟨by rfl, ?_⟩) hHeld ?_; rotate_left; focus (intro w hSw; (try dsimp only at hSw); go_simp; (try with_reducible rfl)))
  try simp only [Act.put, List.getElem_toArray, List.getElem_cons_succ, List.getElem_cons_zero, List.setIfInBounds_toArray, List.set_cons_zero, List.set_cons_succ]
  (refine wpAnyH_take (i := 8) (v := ?_) rfl (by kernel_rfl) (by kernel_rfl) (by kernel_rfl) (fun _ _ _ h => h) (Or.inl ⟨by rfl, ?_⟩) hHeld ?_; rotate_left; focus (intro w hSw; (try dsimp only at hSw); go_simp; (try with_reducible rfl)))
  try simp only [Act.put, List.getElem_toArray, List.getElem_cons_succ, List.getElem_cons_zero, List.setIfInBounds_toArray, List.set_cons_zero, List.set_cons_succ]
  (refine wpAnyH_take (i := 9) (v := ?_) rfl (by kernel_rfl) (by kernel_rfl) (by kernel_rfl) (fun _ _ _ h => h) (Or.inl ⟨by rfl, ?_⟩) hHeld ?_; rotate_left; focus (intro w hSw; (try dsimp only at hSw); go_simp; (try with_reducible rfl)))
  try simp only [Act.put, List.getElem_toArray, List.getElem_cons_succ, List.getElem_cons_zero, List.setIfInBounds_toArray, List.set_cons_zero, List.set_cons_succ]
  (refine wpAnyH_take (i := 10) (v := ?_) rfl (by kernel_rfl) (by kernel_rfl) (by kernel_rfl) (fun _ _ _ h => h) (Or.inl ⟨by rfl, ?_⟩) hHeld ?_; rotate_left; focus (intro w hSw; (try dsimp only at hSw); go_simp; (try with_reducible rfl)))
  try simp only [Act.put, List.getElem_toArray, List.getElem_cons_succ, List.getElem_cons_zero, List.setIfInBounds_toArray, List.set_cons_zero, List.set_cons_succ]
  (refine wpAnyH_take (i := 14) (v := ?_) rfl (by kernel_rfl) (by kernel_rfl) (by kernel_rfl) (fun _ _ _ h => h) (Or.inl ⟨by rfl, ?_⟩) hHeld ?_; rotate_left; focus (intro w hSw; (try dsimp only at hSw); go_simp; (try with_reducible rfl)))
  try simp only [Act.put, List.getElem_toArray, List.getElem_cons_succ, List.getElem_cons_zero, List.setIfInBounds_toArray, List.set_cons_zero, List.set_cons_succ]
  (refine wpAnyH_take (i := 15) (v := ?_) rfl (by kernel_rfl) (by kernel_rfl) (by kernel_rfl) (fun _ _ _ h => h) (Or.inl ⟨by rfl, ?_⟩) hHeld ?_; rotate_left; focus (intro w hSw; (try dsimp only at hSw); go_simp; (try with_reducible rfl)))
  try simp only [Act.put, List.getElem_toArray, List.getElem_cons_succ, List.getElem_cons_zero, List.setIfInBounds_toArray, List.set_cons_zero, List.set_cons_succ]
  (refine wpAnyH_take (i := 16) (v := ?_) rfl (by kernel_rfl) (by kernel_rfl) (by kernel_rfl) (fun _ _ _ h => h) (Or.inl ⟨by rfl, ?_⟩) hHeld ?_; rotate_left; focus (intro w hSw; (try dsimp only at hSw); go_simp; (try with_reducible rfl)))
  try simp only [Act.put, List.getElem_toArray, List.getElem_cons_succ, List.getElem_cons_zero, List.setIfInBounds_toArray, List.set_cons_zero, List.set_cons_succ]
  (refine wpAnyH_take (i := 17) (v := ?_) rfl (by kernel_rfl) (by kernel_rfl) (by kernel_rfl) (fun _ _ _ h => h) (Or.inl ⟨by rfl, ?_⟩) hHeld ?_; rotate_left; focus (intro w hSw; (try dsimp only at hSw); go_simp; (try with_reducible rfl)))
  try simp only [Act.put, List.getElem_toArray, List.getElem_cons_succ, List.getElem_cons_zero, List.setIfInBounds_toArray, List.set_cons_zero, List.set_cons_succ]
  (refine wpAnyH_ready (rs := [4]) (by kernel_rfl) (by simp) ?_; refine AllReadyH.cons rfl (fun K hK => ?_) AllReadyH.nil; go_simp; (first | (go_at_call 37; with_reducible refine (C1.out _ hHeld.2.1).mono ?_; rintro r w' ⟨rfl, hb⟩) | (go_at_call 37; with_reducible refine (C2.out _ hHeld.2.1).mono ?_; rintro r w' ⟨rfl, hb⟩)); (try go_wp2_with fail); refine hK.out _ _ ?_ (fun hHeld' => ?_); (focus (exact hkeep _ _ hb hHeld)); clear hK K; replace hHeld := hHeld'; clear hHeld')
  try simp only [Act.put, List.getElem_toArray, List.getElem_cons_succ, List.getElem_cons_zero, List.setIfInBounds_toArray, List.set_cons_zero, List.set_cons_succ]
  (refine wpAnyH_take (i := 5) (v := ?_) rfl (by kernel_rfl) (by kernel_rfl) (by kernel_rfl) (fun _ _ _ h => h) (Or.inl ⟨by rfl, ?_⟩) hHeld ?_; rotate_left; focus (intro w hSw; (try dsimp only at hSw); go_simp; (try with_reducible rfl)))
  try simp only [Act.put, List.getElem_toArray, List.getElem_cons_succ, List.getElem_cons_zero, List.setIfInBounds_toArray, List.set_cons_zero, List.set_cons_succ]
  (refine wpAnyH_take (i := 6) (v := ?_) rfl (by kernel_rfl) (by kernel_rfl) (by kernel_rfl) (fun _ _ _ h => h) (Or.inl ⟨by rfl, ?_⟩) hHeld ?_; rotate_left; focus (intro w hSw; (try dsimp only at hSw); go_simp; (try with_reducible rfl)))
  try simp only [Act.put, List.getElem_toArray, List.getElem_cons_succ, List.getElem_cons_zero, List.setIfInBounds_toArray, List.set_cons_zero, List.set_cons_succ]
  (refine wpAnyH_ready (rs := [11]) (by kernel_rfl) (by simp) ?_; refine AllReadyH.cons rfl (fun K hK => ?_) AllReadyH.nil; go_simp; (first | (go_at_call 37; with_reducible refine (C1.out _ hHeld.2.1).mono ?_; rintro r w' ⟨rfl, hb⟩) | (go_at_call 37; with_reducible refine (C2.out _ hHeld.2.1).mono ?_; rintro r w' ⟨rfl, hb⟩)); (try go_wp2_with fail); refine hK.out _ _ ?_ (fun hHeld' => ?_); (focus (exact hkeep _ _ hb hHeld)); clear hK K; replace hHeld := hHeld'; clear hHeld')
  try simp only [Act.put, List.getElem_toArray, List.getElem_cons_succ, List.getElem_cons_zero, List.setIfInBounds_toArray, List.set_cons_zero, List.set_cons_succ]
  (refine wpAnyH_take (i := 12) (v := ?_) rfl (by kernel_rfl) (by kernel_rfl) (by kernel_rfl) (fun _ _ _ h => h) (Or.inl ⟨by rfl, ?_⟩) hHeld ?_; rotate_left; focus (intro w hSw; (try dsimp only at hSw); go_simp; (try with_reducible rfl)))
  try simp only [Act.put, List.getElem_toArray, List.getElem_cons_succ, List.getElem_cons_zero, List.setIfInBounds_toArray, List.set_cons_zero, List.set_cons_succ]
  (refine wpAnyH_take (i := 13) (v := ?_) rfl (by kernel_rfl) (by kernel_rfl) (by kernel_rfl) (fun _ _ _ h => h) (Or.inl ⟨by rfl, ?_⟩) hHeld ?_; rotate_left; focus (intro w hSw; (try dsimp only at hSw); go_simp; (try with_reducible rfl)))
  try simp only [Act.put, List.getElem_toArray, List.getElem_cons_succ, List.getElem_cons_zero, List.setIfInBounds_toArray, List.set_cons_zero, List.set_cons_succ]
  (refine wpAnyH_take (i := 18) (v := ?_) rfl (by kernel_rfl) (by kernel_rfl) (by kernel_rfl) (fun _ _ _ h => h) (Or.inl ⟨by rfl, ?_⟩) hHeld ?_; rotate_left; focus (intro w hSw; (try dsimp only at hSw); go_simp; (try with_reducible rfl)))
  try simp only [Act.put, List.getElem_toArray, List.getElem_cons_succ, List.getElem_cons_zero, List.setIfInBounds_toArray, List.set_cons_zero, List.set_cons_succ]
  (refine wpAnyH_take (i := 19) (v := ?_) rfl (by kernel_rfl) (by kernel_rfl) (by kernel_rfl) (fun _ _ _ h => h) (Or.inl ⟨by rfl, ?_⟩) hHeld ?_; rotate_left; focus (intro w hSw; (try dsimp only at hSw); go_simp; (try with_reducible rfl)))
  try simp only [Act.put, List.getElem_toArray, List.getElem_cons_succ, List.getElem_cons_zero, List.setIfInBounds_toArray, List.set_cons_zero, List.set_cons_succ]
  (refine wpAnyH_take (i := 20) (v := ?_) rfl (by kernel_rfl) (by kernel_rfl) (by kernel_rfl) (fun _ _ _ h => h) (Or.inl ⟨by rfl, ?_⟩) hHeld ?_; rotate_left; focus (intro w hSw; (try dsimp only at hSw); go_simp; (try with_reducible rfl)))
  try simp only [Act.put, List.getElem_toArray, List.getElem_cons_succ, List.getElem_cons_zero, List.setIfInBounds_toArray, List.set_cons_zero, List.set_cons_succ]
  refine wpAnyH_done (by kernel_rfl) ?_ _
  refine NoPanic.normal ?_
  clear hL1 hL2 hL3 hL4 hL5 hL6 x1 x2 x3 x4 x5 y1 y2 y3 y4 y5 y6 C1 C2 HQ
  obtain ⟨hb0, _⟩ := hHeld
  have HBB := Lib.hid hb0
  clear hb0
  rw [HB0.out]
  go_wp2_with fail
  go_ret
  exact ⟨rfl, HBB.out⟩
theorem head_nil (w : World) : Calls Tryd.prog 29 #[.pointer none] w fun r w' => r = .returned (.string (sB [])) ∧ w = w' := by
  go_enter Tryd.func29, Tryd.ntmps29
  go_wp2
  go_ret
  exact ⟨rfl, rfl⟩
theorem write_sep (B b : Nat) (l : List UInt8) (w : World) (h : Blt B b l w) (hlen : l.length + 2 ≤ 100000) (hB : B ≤ w.heap.size) : Calls Tryd.prog 28 #[.pointer (some ⟨b, 0, none⟩), .string ⟨#[58, 32]⟩] w
    fun e w' => e = .returned (.tuple #[.int .i64 2, .nilIface]) ∧ Blt B b (l ++ [58, 32]) w' ∧ Below B w w' := write_any B b l [58, 32] w h hlen hB
section
variable (v : Value) (xT : TypeId) (w : World)
theorem tE_code : (Instr.typeAssert (.iface 35 v) xT 63 true).run Tryd.prog w = .ok (.tuple #[.pointer none, .bool false]) w := by kernel_rfl
theorem tN_code : (Instr.typeAssert (.iface 35 v) xT 68 true).run Tryd.prog w = .ok (.tuple #[.pointer none, .bool false]) w := by kernel_rfl
theorem tE_err : (Instr.typeAssert (.iface 63 v) xT 63 true).run Tryd.prog w = .ok (.tuple #[v, .bool true]) w := by kernel_rfl
theorem tE_note : (Instr.typeAssert (.iface 68 v) xT 63 true).run Tryd.prog w = .ok (.tuple #[.pointer none, .bool false]) w := by kernel_rfl
theorem tN_note : (Instr.typeAssert (.iface 68 v) xT 68 true).run Tryd.prog w = .ok (.tuple #[v, .bool true]) w := by kernel_rfl
theorem mE_code : (Go.method 211 35 v "Error").run Tryd.prog w = .ok (32, v) w := by kernel_rfl
end

set_option maxHeartbeats 4000000 in
theorem text_any (e : Errs) (w : World) (h : ErrsIs w e) (ht : TabW w) (hl : e.textE.length ≤ 20000) : Calls Tryd.prog 20 #[e.val] w fun r w' => r = .returned (.string (sB e.textE)) ∧ Below w.heap.size w w' := by
  have c1 := tE_code; have c2 := tN_code; have c3 := tE_err; have c4 := tE_note; have c5 := tN_note; have m1 := mE_code
  have H := Lib.hid h; have HT := Lib.hid ht; have HL := Lib.hid hl
  have hnew := Blt.new w
  have hB : Below w.heap.size w (w.alloc (.cells #[.pointer none, .slice none 0 0] 62)) := (Below.refl _ _).alloc (Nat.le_refl _) _
  have HN := Lib.hid hnew; have HB := Lib.hid hB
  clear h ht hl hnew hB
  go_enter Tryd.func20, Tryd.ntmps20
  go_wp2_with fail
  go_loopw [0] (fun a wr => ∃ (x : Errs) (acc : List UInt8), a = x.val ∧ acc ++ x.textE = e.textE ∧ ErrsIs w x ∧ Blt w.heap.size w.heap.size acc wr ∧ Below w.heap.size w wr) (fun a _ => mV a)
  case atStart => exact ⟨e, [], rfl, rfl, H.out, HN.out, HB.out⟩
  case round =>
    obtain ⟨x, acc, rfl, hacc, hx, hb, hbe⟩ := hrel
    have hlen : acc.length + x.textE.length ≤ 20000 := by have := HL.out; rw [← hacc, List.length_append] at this; exact this
    have HA := Lib.hid hacc; have HX := Lib.hid (hx.below hbe); have HX0 := Lib.hid hx; have HBL := Lib.hid hb; have HBE := Lib.hid hbe; have HLN := Lib.hid hlen
    have HTW := Lib.hid (HT.out.below hbe)
    clear hacc hx hb hbe hlen
    cases x with
    | no =>
      simp only [Errs.val]
      go_wp2_with (go_at_call 32; refine (aError_any 0 (by omega) (by omega) _).mono ?_; rintro r w1 ⟨rfl, hb1⟩)
      have d1 := HBE.out.trans (hb1.mono HBE.out.size)
      have hn := HLN.out
      go_wp2_with (go_at_call 28; refine (write_any w.heap.size w.heap.size acc (nameL 0) _ (HBL.out.below hb1) (by change acc.length + 2 ≤ 20000 at hn; show acc.length + 2 ≤ 100000; omega) d1.size).mono ?_; rintro r w2 ⟨rfl, h2, hb2⟩)
      have d2 := d1.trans hb2
      go_wp2_with (go_at_call 31; refine (string_any w.heap.size w.heap.size (acc ++ nameL 0) _ h2 d2.size).mono ?_; rintro r w3 ⟨rfl, hb3⟩)
      go_ret
      exact ⟨by rw [← HA.out]; rfl, d2.trans hb3⟩
    | code c =>
      simp only [Errs.val]
      go_wp2_with (go_at_call 32; refine (aError_any c HX0.out.1 HX0.out.2 _).mono ?_; rintro r w1 ⟨rfl, hb1⟩)
      have d1 := HBE.out.trans (hb1.mono HBE.out.size)
      have hn := HLN.out
      go_wp2_with (go_at_call 28; refine (write_any w.heap.size w.heap.size acc (nameL c) _ (HBL.out.below hb1) (by change acc.length + (nameL c).length ≤ 20000 at hn; omega) d1.size).mono ?_; rintro r w2 ⟨rfl, h2, hb2⟩)
      have d2 := d1.trans hb2
      go_wp2_with (go_at_call 31; refine (string_any w.heap.size w.heap.size (acc ++ nameL c) _ h2 d2.size).mono ?_; rintro r w3 ⟨rfl, hb3⟩)
      go_ret
      exact ⟨by rw [← HA.out]; rfl, d2.trans hb3⟩
    | nilE =>
      simp only [Errs.val]
      have hn := HLN.out
      go_wp2_with (go_at_call 29; refine (head_nil _).mono ?_; rintro r w1 ⟨rfl, rfl⟩)
      go_wp2_with (go_at_call 28; refine (write_any w.heap.size w.heap.size acc [] _ HBL.out (by change acc.length + 2 ≤ 20000 at hn; show acc.length + 0 ≤ 100000; omega) HBE.out.size).mono ?_; rintro r w2 ⟨rfl, h2, hb2⟩)
      have d2 := HBE.out.trans hb2
      go_wp2_with (go_at_call 30; refine (eUnwrap_nil _).mono ?_; rintro r w' ⟨rfl, rfl⟩)
      go_roundw
      case rel => exact ⟨.no, acc ++ [], rfl, by rw [← HA.out, List.append_nil]; rfl, trivial, h2, d2⟩
      case measure => exact Nat.zero_lt_one
    | err g t l s i =>
      have hx := HX.out
      have hn := HLN.out
      have i4 := hx.2.2.2.2.1
      have hval : (Errs.err g t l s i).val = .iface 63 (.pointer (some ⟨g, 0, none⟩)) := rfl
      rw [hval]
      clear hval
      go_wp2_with (go_at_call 29; refine (head_any g t l s _ HTW.out hx.2.1 hx.2.2.1 hx.2.2.2.1 hx.2.2.2.2.2.1 hx.2.2.2.2.2.2.1 hx.2.2.2.2.2.2.2.1).mono ?_; rintro r w1 ⟨rfl, hb1⟩)
      have d1 := HBE.out.trans (hb1.mono HBE.out.size)
      have hn2 : acc.length + (headL t l s).length ≤ 100000 := by change acc.length + (headL t l s ++ i.textE).length ≤ 20000 at hn; rw [List.length_append] at hn; omega
      go_wp2_with (go_at_call 28; refine (write_any w.heap.size w.heap.size acc (headL t l s) _ (HBL.out.below hb1) hn2 d1.size).mono ?_; rintro r w2 ⟨rfl, h2, hb2⟩)
      have d2 := d1.trans hb2
      have j4 := (HX0.out.below d2).2.2.2.2.1
      go_wp2_with (go_at_call 30; refine (eUnwrap_any g i.val _ j4).mono ?_; rintro r w' ⟨rfl, rfl⟩)
      go_roundw
      case rel => exact ⟨i, acc ++ headL t l s, rfl, by rw [← HA.out, List.append_assoc]; rfl, HX0.out.inner, h2, d2⟩
      case measure => rw [mV_val]; exact top_inner _ HX0.out (by intro h; cases h)
    | note g s i =>
      have hx := HX.out
      have hn := HLN.out
      have n1 := hx.2.1
      have hn2 : acc.length + s.length + 2 ≤ 20000 := by change acc.length + (s ++ [58, 32] ++ i.textE).length ≤ 20000 at hn; rw [List.length_append, List.length_append] at hn; change acc.length + (s.length + 2 + i.textE.length) ≤ 20000 at hn; omega
      have hval : (Errs.note g s i).val = .iface 68 (.pointer (some ⟨g, 0, none⟩)) := rfl
      rw [hval]
      clear hval
      go_upto_region 14 with (go_at_call 28; refine (write_any w.heap.size w.heap.size acc s _ HBL.out (by omega) HBE.out.size).mono ?_; rintro r w1 ⟨rfl, h1, hb1⟩)
      have d1 := HBE.out.trans hb1
      go_upto_region 15 with (go_at_call 28; refine (write_sep w.heap.size w.heap.size (acc ++ s) _ h1 (by rw [List.length_append]; show acc.length + s.length + 2 ≤ 100000; omega) d1.size).mono ?_; rintro r w2 ⟨rfl, h2, hb2⟩)
      have d2 := d1.trans hb2
      have j4 : w2.cell? ⟨g, 1, none⟩ = some i.val := (HX0.out.below d2).2.2.1
      generalize hiv : i.val = iv at *
      go_wp2_with fail
      go_roundw
      case rel => exact ⟨i, acc ++ s ++ [58, 32], hiv.symm, by rw [← HA.out]; show _ = acc ++ (s ++ [58, 32] ++ i.textE); simp only [List.append_assoc], HX0.out.inner, h2, d2⟩
      case measure => rw [← hiv, mV_val]; exact top_inner _ HX0.out (by intro h; cases h)
end Go.Proofs.YthhheeocanbkiaaDoor
