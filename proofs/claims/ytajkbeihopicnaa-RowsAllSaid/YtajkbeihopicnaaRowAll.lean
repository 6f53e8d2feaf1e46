/- rows.All, and what it hands back. -/
import Derived.Test.YtajkbeihopicnaaRowAt
import Derived.Test.YtajkbeihopicnaaRowClone
import Derived.Shelf.AbstractIn
namespace Go.Proofs.Ytajkbeihopicnaa
open Go.ChangeShapes Go.WideShapes Go.ChangeAt Go.RowKit Go.Shelf
attribute [local go_sem] Oper.semAt_some

/-- All: a copy of the list and the key, held by what is handed back. -/
theorem rAll_any (A : Option Addr) (c : Nat) (L : List Rw) (hL : L.length ≤ 1000000) (key : Int) (w : World) (hl : Lies w A L) :
    Calls Try.prog 15 #[.slice A L.length c, .int .i64 key] w fun e w' => ∃ (Bo c' : Nat) (A' : Option Addr), e = .returned (.func (.func 22) #[] #[.pointer (some ⟨Bo, 0, none⟩), .pointer (some ⟨w.heap.size, 0, none⟩)]) ∧
      w'.cell? ⟨Bo, 0, none⟩ = some (.slice A' L.length c') ∧ w'.cell? ⟨w.heap.size, 0, none⟩ = some (.int .i64 key) ∧ Lies w' A' L ∧ Below w.heap.size w w' ∧ Bo < w'.heap.size ∧ w.heap.size < w'.heap.size := by
  have c1 : ∀ o, _ := fun o => rClone_any A c L hL (w.alloc o) (hl.alloc o)
  have C := Lib.hid c1; clear c1 hl
  generalize hm : L.length = m at *
  have HM := Lib.hid hm; clear hm
  go_enter Try.func15, Try.ntmps15
  go_wp2_with (go_at_call 18; refine (C.out _).mono ?_; rintro e w1 ⟨v, rfl, hown, hb⟩; obtain ⟨A', c', rfl, hle, _, hl1⟩ := lies_of_own hown; clear hown)
  have h1 : w.heap.size < w1.heap.size := by have := hb.size; simp at this; omega
  have x0 : w1.cell? ⟨w.heap.size, 0, none⟩ = some (.int .i64 key) := cell_keep hb (Boxed.new w 2 (.int .i64 key)).cell
  go_ret
  have h2 : Below w1.heap.size w1 (w1.alloc (.cells #[.slice A' m c'] 22)) := (Below.refl _ _).alloc (Nat.le_refl _) _
  exact ⟨w1.heap.size, c', A', rfl, (Boxed.new w1 22 (.slice A' m c')).cell, cell_keep h2 x0, hl1.keep h2, ((Below.refl _ w).alloc (Nat.le_refl _) _).trans ((hb.mono (by simp)).trans (h2.mono (by omega))), by simp, by simp; omega⟩

theorem OwnFrom.up {β : Type} {B C : Nat} {I : β → World → Prop} (h : OwnFrom B I) (hB : B ≤ C) : OwnFrom C I := fun s W W' row hs hg hr => h s W W' row hs hg fun r e => ⟨Nat.le_trans hB (hr r e).1, (hr r e).2⟩
theorem OwnFrom.map {α β : Type} {B : Nat} {I : β → World → Prop} (h : OwnFrom B I) (f : α → β) : OwnFrom B (fun s W => I (f s) W) := fun s W W' row hs hg hr => h (f s) W W' row hs hg hr
theorem Boxed.only {F : Nat → Prop} {W W' : World} {B : Nat} {t : TypeId} {v : Value} (h : Boxed W B t v) (ho : Only F W W') (hn : ¬ F B) : Boxed W' B t v := (ho.2 B h.lt hn).trans h

set_option maxRecDepth 100000 in
set_option maxHeartbeats 2000000 in
/-- What All hands back tells the rows one by one, till nobody wants more. -/
theorem rAll1_any (M : Nat → Prop) (gf : Nat) (lb : Array Value) (eg : ∀ args w, (callFunc gf args).run Try.prog w = .ok (.enter gf args) w) (Bo Bf c : Nat) (A : Option Addr) (L : List Rw) (hL : L.length ≤ 1000000) (key : Int) (J Jx : List Rw → World → Prop) (w : World)
    (hY : ∀ pre x W, J pre W → pre.length < L.length → Calls Try.prog gf (#[.agg #[.int .i64 x.k, .int .u64 (x.a : Nat), .int .u64 (x.b : Nat)]] ++ lb) W fun e W' =>
      (e = .returned (.bool true) ∧ J (pre ++ [x]) W' ∧ KeepsOthers W W' ∧ Only M W W') ∨ (e = .returned (.bool false) ∧ Jx (pre ++ [x]) W' ∧ KeepsOthers W W' ∧ Only M W W'))
    (hJ : OwnFrom w.heap.size J) (hJx : OwnFrom w.heap.size Jx) (hM : ∀ i, M i → i < w.heap.size) (hA : ∀ a, A = some a → 0 < L.length → ¬ M a.block)
    (hBo : w.cell? ⟨Bo, 0, none⟩ = some (.slice A L.length c)) (hBf : w.cell? ⟨Bf, 0, none⟩ = some (.int .i64 key)) (hl : Lies w A L) (h0 : J [] w) :
    Calls Try.prog 22 #[.func (.func gf) #[] lb, .pointer (some ⟨Bo, 0, none⟩), .pointer (some ⟨Bf, 0, none⟩)] w fun e w' => (∃ v, e = .returned v) ∧ (J (fromL L key) w' ∨ ∃ k, k ≤ L.length ∧ Jx (fromL (L.take k) key) w') := by
  refine (callsIn_wide (n := 9)).1 ?_
  have hbo : Bo < w.heap.size := World.block_lt_of_cell? w _ hBo
  have hbf : Bf < w.heap.size := World.block_lt_of_cell? w _ hBf
  have cBo : (w.alloc (.cells #[(.func (.func gf) #[] lb)] 42)).cell? ⟨Bo, 0, none⟩ = some (.slice A L.length c) := (cell_keep ((Below.refl _ w).alloc (Nat.le_refl _) _) hBo)
  have cBf : (w.alloc (.cells #[(.func (.func gf) #[] lb)] 42)).cell? ⟨Bf, 0, none⟩ = some (.int .i64 key) := (cell_keep ((Below.refl _ w).alloc (Nat.le_refl _) _) hBf)
  have HY := Lib.hid hY; have HJ := Lib.hid (And.intro hJ hJx); have HL := Lib.hid (And.intro hl hA); have HT := Lib.hid (fun k (hk : k ≤ L.length) => hits_rows (L := L) (key := key) hk)
  clear hY hJ hJx hBo hBf hl hA
  generalize hm : L.length = m at *
  have HM := Lib.hid hm; clear hm
  have hf1 : Fence.wide.fn 21 := trivial
  have hf2 : Fence.wide.fn 26 := trivial
  have hf3 : Fence.wide.fn gf := trivial
  refine callsIn_of_wp_marks Try.func22 rfl trivial ?_ rfl
  simp only [Try.ntmps22, List.size_toArray, List.length_cons, List.length_nil, Nat.reduceAdd, Nat.reduceSub, Array.replicate_succ, Array.replicate_zero, List.push_toArray, List.append_toArray, List.nil_append, List.cons_append]
  gi_wp2_with (gi_at_call 21; refine (reaching_in Fence.wide _ trivial rfl _ _ _ _ _).mono ?_; rintro e w' ⟨rfl, rfl⟩)
  have bY := ((Boxed.new w 42 (.func (.func gf) #[] lb)).alloc (.cells #[.slice A m c] 22)).alloc (.cells #[.int .i64 key] 2)
  have bL := (Boxed.new (w.alloc (.cells #[(.func (.func gf) #[] lb)] 42)) 22 (.slice A m c)).alloc (.cells #[.int .i64 key] 2)
  have bK := Boxed.new ((w.alloc (.cells #[(.func (.func gf) #[] lb)] 42)).alloc (.cells #[.slice A m c] 22)) 2 (.int .i64 key)
  simp only [World.size_alloc] at bL bK
  have hB0 : Below w.heap.size w (((w.alloc (.cells #[(.func (.func gf) #[] lb)] 42)).alloc (.cells #[.slice A m c] 22)).alloc (.cells #[.int .i64 key] 2)) :=
    (((Below.refl _ w).alloc (Nat.le_refl _) _).alloc (by simp) _).alloc (by simp; omega) _
  have hsz : (((w.alloc (.cells #[(.func (.func gf) #[] lb)] 42)).alloc (.cells #[.slice A m c] 22)).alloc (.cells #[.int .i64 key] 2)).heap.size = w.heap.size + 3 := by simp
  have hJ0 : J [] (((w.alloc (.cells #[(.func (.func gf) #[] lb)] 42)).alloc (.cells #[.slice A m c] 22)).alloc (.cells #[.int .i64 key] 2)) := HJ.out.1.alloc _ (HJ.out.1.alloc _ (HJ.out.1.alloc _ h0))
  obtain ⟨W0, hW0⟩ : ∃ W0, ((w.alloc (.cells #[(.func (.func gf) #[] lb)] 42)).alloc (.cells #[.slice A m c] 22)).alloc (.cells #[.int .i64 key] 2) = W0 := ⟨_, rfl⟩
  rw [hW0] at bY bL bK hB0 hsz hJ0 ⊢
  clear hW0 cBo cBf h0
  have hl0 := HL.out.1.keep hB0
  refine wpIn_rangeFunc_ownH rfl (by omega) (gf := 26) (lb := #[.pointer (some ⟨w.heap.size + 1, 0, none⟩), .pointer (some ⟨w.heap.size + 1 + 1, 0, none⟩)]) rfl trivial (enters_of Try.func26 (by kernel_rfl) rfl)
    (reaching_stops Fence.wide (9 - 1) trivial rfl (by omega) (fun i => M i ∨ w.heap.size + 3 ≤ i) (w.heap.size + 1) (w.heap.size + 1 + 1) c A L (by rw [HM.out]; exact hL) key (fun a e h0 => by
        have := HL.out.1.lt_ a e h0
        have h2 := HL.out.2 a e (by rw [← HM.out]; exact h0)
        intro hh
        rcases hh with hh | hh
        · exact h2 hh
        · omega) (by intro hh; rcases hh with hh | hh; have := hM _ hh; omega; omega) W0 (by rw [HM.out]; exact bL.cell) bK.cell hl0)
    onlyK_t (onlyK_b fun i hi => .inr (by omega)) (Below.refl _ _) (fun _ => rfl)
    (fun (pre : List (Nat × Rw)) W => (J (pre.map (·.2)) W ∧ w.heap.size + 3 ≤ W.heap.size) ∧ Boxed W w.heap.size 42 (.func (.func gf) #[] lb))
    (fun c (pre : List (Nat × Rw)) W => c = .ret ∧ Jx (pre.map (·.2)) W)
    (OwnFrom.and (OwnFrom.and (OwnFrom.map (OwnFrom.up HJ.out.1 (by omega)) (fun pre : List (Nat × Rw) => pre.map (·.2))) (fun s W W' row hs hg hr => Nat.le_trans hs hg.size)) (Own.from (fun s A B row hs hg hr => boxed_keep hs hg hr) _))
    (fun c => OwnFrom.and (fun s W W' row hs hg hr => hs) (OwnFrom.map (OwnFrom.up HJ.out.2 (by omega)) (fun pre : List (Nat × Rw) => pre.map (·.2))))
    ⟨⟨hJ0, by omega⟩, bY⟩
    (fun x a' W => ∃ Bx, w.heap.size + 3 ≤ Bx ∧ Box3 W Bx x.2 ∧ a' = { tmps := #[(.func (.func gf) #[] lb), .pointer (some ⟨Bo, 0, none⟩), .pointer (some ⟨Bf, 0, none⟩), .pointer (some ⟨w.heap.size, 0, none⟩), undef, .pointer (some ⟨Bx, 0, none⟩), .slice A m c, .int .i64 key, .func (.func 26) #[] #[.pointer (some ⟨w.heap.size + 1, 0, none⟩), .pointer (some ⟨w.heap.size + 1 + 1, 0, none⟩)], .int .i64 (x.1 : Int), .agg #[.int .i64 x.2.k, .int .u64 (x.2.a : Nat), .int .u64 (x.2.b : Nat)], undef, undef, undef, undef], defers := [] })
    (fun x a' _ X Y row hs hg hr => by obtain ⟨Bx, e1, e2, e3⟩ := hs; exact ⟨Bx, e1, box3_keep e2 hg (fun r e => (hr r e).2), e3⟩)
    ?assign ?body ?done ?stop
  case assign =>
    rintro l pre ⟨i, k, a, b⟩ W K ⟨⟨hj, hz⟩, hy⟩ hK
    simp only [told]
    gi_wp2
    have hb := (Below.refl W.heap.size W).alloc (Nat.le_refl _) (.cells #[.int .i64 k, .int .u64 (a : Nat), .int .u64 (b : Nat)] 27)
    exact hK _ _ ((KeepsOthers.alloc _ _).from _) ((Only.refl _ W).then hb) ⟨⟨HJ.out.1.alloc _ hj, by simp; omega⟩, hy.alloc _⟩ ⟨W.heap.size, hz, Box3.new W ⟨k, a, b⟩, rfl⟩
  case body =>
    rintro l pre ⟨i, k, a, b⟩ a' W hlw ⟨r, hr⟩ ⟨⟨hj, hz⟩, hy⟩ ⟨Bx, hBx, bX, rfl⟩ hlt
    have k1 := hy.cell
    have x0 := bX.cell0
    have x1 := bX.cell1
    have x2 := bX.cell2
    have c1 := HY.out (pre.map (·.2)) ⟨k, a, b⟩ W hj (by rw [List.length_map]; exact HM.out ▸ hlt)
    gi_wp2_with (gi_at_fn gf; refine (CallsIn.inRound l (callsIn_wide.2 c1)).mono ?_; rintro e W' (⟨rfl, hj', hk', ho'⟩ | ⟨rfl, hj', hk', ho'⟩))
    · exact ⟨hk'.from _, ho'.mono (fun _ _ h => .inl h), ⟨by simpa using hj', Nat.le_trans hz ho'.size⟩, Boxed.only hy ho' (fun h => by have := hM _ h; omega)⟩
    · exact ⟨hk'.from _, rfl, by simpa using hj'⟩
  case done =>
    rintro D ys W hD rfl ⟨⟨hj, hz⟩, hy⟩ hK
    gi_wp2
    refine ⟨by simp, .inl ⟨_, _, rfl, run_takeDeferred hK, ?_⟩⟩
    refine ⟨_, results_none rfl _ _ _, ⟨_, rfl⟩, .inl ?_⟩
    have h1 := OwnFrom.putObj (OwnFrom.up HJ.out.1 (C := W0.heap.size) (by omega)) (.deferred none) hj hD hK rfl
    rw [HM.out, HT.out m (Nat.le_refl _), ← HM.out, List.take_length] at h1
    exact h1
  case stop =>
    rintro D c pre W hD ⟨k, hk, rfl⟩ ⟨rfl, hj⟩ hK
    gi_wp2
    refine ⟨by simp, .inl ⟨_, _, rfl, run_takeDeferred hK, ?_⟩⟩
    refine ⟨_, results_none rfl _ _ _, ⟨_, rfl⟩, .inr ⟨k, HM.out ▸ hk, ?_⟩⟩
    have h1 := OwnFrom.putObj (OwnFrom.up HJ.out.2 (C := W0.heap.size) (by omega)) (.deferred none) hj hD hK rfl
    rw [HT.out k (HM.out ▸ hk)] at h1
    exact h1
end Go.Proofs.Ytajkbeihopicnaa
