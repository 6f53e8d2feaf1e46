/- hist.Of. -/
import Derived.Test.YtckcliimngeieaaCollect
import Derived.Deep.AppendLies
import Derived.Deep.MidRow
namespace Go.Proofs.Ytckcliimngeieaa
open Go.ChangeShapes Go.WideShapes Go.ChangeAt Go.RowKit
set_option linter.unusedVariables false
set_option linter.unusedSimpArgs false

/-- The events of spots. -/
def evsS (L : List Opr) (S : List Spt) : List Ev := S.map fun s => eventE (oprN L s.o.toNat) s.k
theorem evsS_len (L : List Opr) (S : List Spt) : (evsS L S).length = S.length := by simp [evsS]
def zEv : Ev := ⟨0, false, zeroC, zeroA⟩
/-- The first k are laid. -/
def evsK (L : List Opr) (S : List Spt) (k : Nat) : List Ev := (evsS L S).take k ++ List.replicate (S.length - k) zEv
theorem evsK_len (L : List Opr) (S : List Spt) {k : Nat} (hk : k ≤ S.length) : (evsK L S k).length = S.length := by
  simp [evsK, evsS_len]; omega
theorem evsK_end (L : List Opr) (S : List Spt) : evsK L S S.length = evsS L S := by
  unfold evsK
  rw [Nat.sub_self, List.replicate_zero, List.append_nil, ← evsS_len L S, List.take_length]
theorem evsK_set (L : List Opr) (S : List Spt) {k : Nat} (hk : k < S.length) : (evsK L S k).set k (eventE (oprN L (S.getD k default).o.toNat) (S.getD k default).k) = evsK L S (k + 1) := by
  have he : k < (evsS L S).length := by rw [evsS_len]; exact hk
  unfold evsK
  rw [List.set_append_right _ _ (by rw [List.length_take]; omega), List.length_take, Nat.min_eq_left (by omega), Nat.sub_self, show S.length - k = (S.length - (k + 1)) + 1 by omega, List.replicate_succ, List.set_cons_zero, List.take_add_one, List.append_assoc]
  congr 1
  rw [List.getElem?_eq_getElem he]
  simp [evsS, List.getD, hk]
theorem madeE (n : Nat) : (madeCells (evF zEv).toArray (n * 15)).toList = flatF evF (List.replicate n zEv) := by
  apply List.ext_getElem?
  intro i
  by_cases hi : i < n * 15
  · have h := flatF_get evF_len (List.replicate n zEv) (i / 15) (i % 15) (by simp; omega) (by omega)
    rw [show i / 15 * 15 + i % 15 = i by omega] at h
    rw [h]
    unfold madeCells
    rw [Array.getElem?_toList, Array.getElem?_map, Array.getElem?_range, if_pos hi]
    have h1 : (List.replicate n zEv).getD (i / 15) default = zEv := by
      simp [List.getD, List.getElem?_replicate, show i / 15 < n by omega]
    rw [h1]
    show some ((evF zEv).toArray[i % (evF zEv).toArray.size]!) = _
    have h2 : i % 15 < (evF zEv).toArray.size := by show i % 15 < 15; omega
    rw [show (evF zEv).toArray.size = 15 from rfl, getElem!_pos (evF zEv).toArray (i % 15) h2, List.getElem?_eq_getElem (show i % 15 < (evF zEv).length by rw [evF_len]; omega)]
    rfl
  · rw [Array.getElem?_toList, Array.getElem?_eq_none (by rw [size_madeCells]; omega), List.getElem?_eq_none (by rw [flatF_length evF_len, List.length_replicate]; omega)]
theorem spots_in {L : List Opr} {s : Spt} : ∀ {i : Nat}, s ∈ spotsUp L i → 0 ≤ s.o ∧ s.o < i
  | 0, h => by simp [spotsUp] at h
  | i + 1, h => by
    unfold spotsUp at h
    rcases List.mem_append.1 h with h | h
    · have := spots_in h; omega
    · unfold sptOf at h
      revert h
      cases decide ((oprN L i).fr < 0) <;> cases decide (0 ≤ (oprN L i).to) <;> simp only [cond, List.mem_cons, List.not_mem_nil, or_false] <;> intro h
      · subst h; simp only; omega
      · rcases h with rfl | rfl <;> simp only <;> omega
      · exact h.elim
      · exact h.elim
theorem LiesC.rangeS {w : World} {b off i : Nat} {O : List Opr} (h : LiesC w (some ⟨b, off, none⟩) (flatF opF O)) (hi : i < O.length) : w.rangeAt b (off + i * 16) (opF (oprN O i)) := fun j v hj => by
  obtain ⟨b', off', e, _, hc⟩ := h.atO (by omega)
  cases e
  have hj16 : j < 16 := (List.getElem?_eq_some_iff.1 hj).1
  rw [← hj]
  exact hc i hi j hj16
theorem set_ev {L : List Ev} {t : Nat} (ht : t < L.length) (x : Ev) : (((((((((((((((flatF evF L).set (t * 15) (.int .i64 x.th)).set (t * 15 + 1) (.bool x.back)).set (t * 15 + 2) (.int .i64 x.c.op)).set (t * 15 + 3) (.int .i64 x.c.l)).set (t * 15 + 4) (.int .i64 x.c.key)).set (t * 15 + 5) (.int .u64 x.c.pa)).set (t * 15 + 6) (.int .u64 x.c.pb)).set (t * 15 + 7) (.int .u64 x.c.hd)).set (t * 15 + 8) (.int .i64 x.c.r)).set (t * 15 + 9) (.int .i64 x.a.e)).set (t * 15 + 10) (.int .u64 x.a.a)).set (t * 15 + 11) (.int .u64 x.a.b)).set (t * 15 + 12) (.int .u64 x.a.h)).set (t * 15 + 13) (.int .i64 x.a.n)).set (t * 15 + 14) (.int .i64 x.a.k) =
    flatF evF (L.set t x) := by
  have hl := take_len evF_len L ht
  have h0 := fun X u => set_behind (X := X) hl 0 u
  simp only [Nat.add_zero] at h0
  rw [flatF_at L ht, flatF_set L ht]
  rw [h0, set_behind hl, set_behind hl, set_behind hl, set_behind hl, set_behind hl, set_behind hl, set_behind hl, set_behind hl, set_behind hl, set_behind hl, set_behind hl, set_behind hl, set_behind hl, set_behind hl]
  rfl
/-- What the loop keeps: the spots' row, the events' row. -/
structure OfR (w : World) (B : Nat) (vS : Value) (ge : Nat) (S : List Spt) (xs : List Ev) (wr : World) : Prop where
  bel : Below w.heap.size w wr
  spt : wr.ownsRow B 54 3 vS S.length (flatF spF S)
  evs : wr.ownsRow B 45 15 (.slice (some ⟨ge, 0, none⟩) S.length S.length) S.length (flatF evF xs)
theorem OfR.keep {w : World} {B ge : Nat} {vS : Value} {S : List Spt} {xs : List Ev} {wr w' : World} (h : OfR w B vS ge S xs wr) (hb : Below wr.heap.size wr w') : OfR w B vS ge S xs w' :=
  ⟨h.bel.trans (hb.mono h.bel.size), own_keep h.spt hb, own_keep h.evs hb⟩

set_option maxRecDepth 100000 in
set_option maxHeartbeats 4000000 in
theorem hOfS_any (A : Option Addr) (c : Nat) (L : List Opr) (hL : L.length ≤ 10000) (w : World) (ha : LiesC w A (flatF opF L)) :
    Calls Try.prog 14 #[.slice A L.length c] w fun e w' => ∃ v, e = .returned v ∧ LnIs w' v (evsS L (sortS (spotsUp L L.length))).length (flatF evF (evsS L (sortS (spotsUp L L.length)))) ∧ Far w.heap.size v ∧ Below w.heap.size w w' := by
  have HA := Lib.hid ha
  have C0 := Lib.hid (fun W (h : Below w.heap.size w W) Bl (hb : W.cell? ⟨Bl, 0, none⟩ = some (.slice A L.length c)) => sorted_any Bl c A L hL W hb (ha.keep h))
  have HSI : Hid (∀ s ∈ sortS (spotsUp L L.length), 0 ≤ s.o ∧ s.o < L.length) := Lib.hid fun s hs => spots_in ((sortS_perm _).mem_iff.1 hs)
  have hsl : (sortS (spotsUp L L.length)).length ≤ 20000 := by have := spotsUp_len L L.length; rw [sortS_len]; omega
  clear ha
  have HEL := Lib.hid (evsS_len L (sortS (spotsUp L L.length)))
  generalize sortS (spotsUp L L.length) = S at *
  have HL := Lib.hid hL
  generalize hlm : L.length = m at *
  have HLM := Lib.hid hlm
  clear hlm
  go_enter Try.func14, Try.ntmps14
  go_upto_region 2 with (first
    | (go_at_call 21; refine (spots_any A m c _).mono ?_; rintro e w1 ⟨rfl, rfl⟩)
    | (go_at_call 20; refine (C0.out _ ((Below.refl _ w).alloc (Nat.le_refl _) _) _ ((Boxed.new w 24 (.slice A m c)).cell)).mono ?_; rintro e w1 ⟨v, rfl, h1, h2⟩))
  have hB1 : Below w.heap.size w w1 := ((Below.refl _ w).alloc (Nat.le_refl _) _).trans (h2.mono (by simp))
  have h3 := own_base h1 (show w.heap.size ≤ (w.alloc (.cells #[.slice A m c] 24)).heap.size by simp)
  clear h1 h2 C0
  obtain ⟨A2, c2, rfl, -⟩ := lnIs_of_own h3
  obtain ⟨i0, hi0, hz0, hz1, hz3⟩ := infoEv
  have hmk : ∀ W : World, (Instr.makeSlice 22 (.int .i64 (S.length : Nat)) (.int .i64 (S.length : Nat))).run Try.prog W = .ok (.slice (some ⟨W.heap.size, 0, none⟩) S.length S.length) (W.alloc (.cells (madeCells (evF zEv).toArray (S.length * 15)) 45)) := fun W => by
    have hr := run_make (P := Try.prog) W 22 45 i0 _ Try.underlying22 hi0 hz0 .i64 .i64 (S.length : Nat) (S.length : Nat) (by omega) (Int.le_refl _) (by rw [hz3]; omega) (by omega)
    rw [hz1, Int.toNat_natCast] at hr
    exact hr
  have hw1 : w.heap.size ≤ w1.heap.size := hB1.size
  have R0 : OfR w w.heap.size (.slice A2 S.length c2) w1.heap.size S (evsK L S 0) (w1.alloc (.cells (madeCells (evF zEv).toArray (S.length * 15)) 45)) := by
    refine ⟨hB1.alloc hw1 _, own_keep h3 ((Below.refl _ _).alloc (Nat.le_refl _) _), by rw [flatF_length evF_len, evsK_len L S (Nat.zero_le _)], .inr ⟨w1.heap.size, S.length, _, rfl, hw1, heap_alloc_new w1 _, Nat.le_refl _, by unfold maxLen; omega, by rw [size_madeCells], ?_⟩⟩
    rw [madeE]
    rw [show evsK L S 0 = List.replicate S.length zEv by simp [evsK]]
    exact List.take_of_length_le (by rw [flatF_length evF_len, List.length_replicate]; exact Nat.le_refl _)
  have HR0 := Lib.hid R0
  clear R0 h3 hB1 hi0 hz0 hz1 hz3
  generalize hge : w1.heap.size = ge at *
  have HGE := Lib.hid hw1
  go_wp2_with fail
  go_loopw [15] (fun i wr => ∃ k : Nat, i = .int .i64 k ∧ k ≤ S.length ∧ OfR w w.heap.size (.slice A2 S.length c2) ge S (evsK L S k) wr) (fun i _ => S.length - (intOf i).toNat)
  case atStart => exact ⟨0, rfl, Nat.zero_le _, HR0.out⟩
  case round =>
    clear HR0
    obtain ⟨k, rfl, hk, R⟩ := hrel
    by_cases hlt : k < S.length
    · obtain ⟨A3, c3, hA3, -, -, -, hl3, -⟩ := lnIs_of_own R.spt
      cases hA3
      obtain ⟨sb, so, rfl, hsb, sx⟩ := hl3.atF spF_len (by omega) (by omega)
      have hxm : S.getD k default ∈ S := by simp [List.getD, hlt]
      obtain ⟨hx0, hx1⟩ := HSI.out _ hxm
      have HES := Lib.hid (evsK_set L S hlt)
      have HEK := Lib.hid (evsK_len L S (show k ≤ S.length by omega))
      have z0 := sx k hlt 0 (by omega)
      have z1 := sx k hlt 1 (by omega)
      have z2 := sx k hlt 2 (by omega)
      clear sx hl3 hxm
      generalize S.getD k default = x at *
      rcases x with ⟨xp, xk, xo⟩
      dsimp only at hx0 hx1 HES
      obtain ⟨t, rfl⟩ : ∃ t : Nat, xo = t := ⟨xo.toNat, by omega⟩
      rw [Int.toNat_natCast] at HES
      have htm : t < m := by omega
      simp only [spF, List.getElem?_cons_succ, List.getElem?_cons_zero] at z0 z1 z2
      have y0 : wr.cell? ⟨sb, so + k * 3, none⟩ = some (.int .i64 xp) := z0
      have y1 : wr.cell? ⟨sb, so + k * 3 + 1, none⟩ = some (.int .i64 xk) := z1
      have y2 : wr.cell? ⟨sb, so + k * 3 + 2, none⟩ = some (.int .i64 (t : Nat)) := z2
      obtain ⟨b, off, rfl, hbw, -⟩ := HA.out.atO (by rw [HLM.out]; omega)
      have hks : (k : Int) < (S.length : Nat) := by omega
      clear z0 z1 z2
      go_upto_region 6 with fail
      generalize hW2 : World.alloc _ _ = W2
      obtain ⟨hb2, hx⟩ := one_cells _ _ _ W2 hW2
      have q1 : W2.cell? ⟨wr.heap.size, 1, none⟩ = some (.int .i64 xk) := hx.cell 1
      have q2 : W2.cell? ⟨wr.heap.size, 2, none⟩ = some (.int .i64 (t : Nat)) := hx.cell 2
      have R2 := R.keep hb2
      have hgeb := own_blockAt R.evs
      have HR2 := Lib.hid R2
      have HL2 := Lib.hid (HA.out.keep R2.bel)
      have hbx := hb2.size
      have HS : Hid (∀ W', Only (fun i => i = ge) W2 W' → W'.cell? ⟨wr.heap.size, 1, none⟩ = some (.int .i64 xk) ∧ W'.cell? ⟨wr.heap.size, 2, none⟩ = some (.int .i64 (t : Nat)) ∧ LiesC W' (some ⟨b, off, none⟩) (flatF opF L)) := Lib.hid fun W' ho => by
        have h1 := World.block_lt_of_cell? W2 _ q1
        exact ⟨(only_cell ho (a := ⟨wr.heap.size, 1, none⟩) h1 (by show wr.heap.size ≠ ge; omega)).trans q1, (only_cell ho (a := ⟨wr.heap.size, 2, none⟩) h1 (by show wr.heap.size ≠ ge; omega)).trans q2, HL2.out.only ho (fun a e => by cases e; show b ≠ ge; omega)⟩
      have hc := fun W => hEvent_any (oprN L t) xk W
      generalize hev : eventE (oprN L t) xk = ev at *
      simp only [evF] at hc
      have HC := Lib.hid hc
      clear hc hev R R2 hx hb2 hW2 y0 y1 y2 q1 q2
      generalize hbx2 : wr.heap.size = bx at *
      have HST : Hid (∀ w5, OfR w w.heap.size (.slice (some ⟨sb, so, none⟩) S.length c2) ge S (evsK L S k) w5 → bx ≤ w5.heap.size →
          OfR w w.heap.size (.slice (some ⟨sb, so, none⟩) S.length c2) ge S (evsK L S (k + 1)) (((((((((((((((w5.setCell ⟨ge, k * 15, none⟩ (.int .i64 ev.th)).setCell ⟨ge, k * 15 + 1, none⟩ (.bool ev.back)).setCell ⟨ge, k * 15 + 2, none⟩ (.int .i64 ev.c.op)).setCell ⟨ge, k * 15 + 3, none⟩ (.int .i64 ev.c.l)).setCell ⟨ge, k * 15 + 4, none⟩ (.int .i64 ev.c.key)).setCell ⟨ge, k * 15 + 5, none⟩ (.int .u64 ev.c.pa)).setCell ⟨ge, k * 15 + 6, none⟩ (.int .u64 ev.c.pb)).setCell ⟨ge, k * 15 + 7, none⟩ (.int .u64 ev.c.hd)).setCell ⟨ge, k * 15 + 8, none⟩ (.int .i64 ev.c.r)).setCell ⟨ge, k * 15 + 9, none⟩ (.int .i64 ev.a.e)).setCell ⟨ge, k * 15 + 10, none⟩ (.int .u64 ev.a.a)).setCell ⟨ge, k * 15 + 11, none⟩ (.int .u64 ev.a.b)).setCell ⟨ge, k * 15 + 12, none⟩ (.int .u64 ev.a.h)).setCell ⟨ge, k * 15 + 13, none⟩ (.int .i64 ev.a.n)).setCell ⟨ge, k * 15 + 14, none⟩ (.int .i64 ev.a.k)) ∧ ∀ j, j < 15 → w5.cell? ⟨ge, k * 15 + j, none⟩ = (evF (evN (evsK L S k) k))[j]?) := Lib.hid fun w5 R5 hbx5 => by
        have hkl : k < (evsK L S k).length := by rw [HEK.out]; exact hlt
        have hrow := own_setAt (own_setAt (own_setAt (own_setAt (own_setAt (own_setAt (own_setAt (own_setAt (own_setAt (own_setAt (own_setAt (own_setAt (own_setAt (own_setAt (own_setAt (R5.evs) (k * 15) (.int .i64 ev.th)) (k * 15 + 1) (.bool ev.back)) (k * 15 + 2) (.int .i64 ev.c.op)) (k * 15 + 3) (.int .i64 ev.c.l)) (k * 15 + 4) (.int .i64 ev.c.key)) (k * 15 + 5) (.int .u64 ev.c.pa)) (k * 15 + 6) (.int .u64 ev.c.pb)) (k * 15 + 7) (.int .u64 ev.c.hd)) (k * 15 + 8) (.int .i64 ev.c.r)) (k * 15 + 9) (.int .i64 ev.a.e)) (k * 15 + 10) (.int .u64 ev.a.a)) (k * 15 + 11) (.int .u64 ev.a.b)) (k * 15 + 12) (.int .u64 ev.a.h)) (k * 15 + 13) (.int .i64 ev.a.n)) (k * 15 + 14) (.int .i64 ev.a.k)
        rw [set_ev hkl ev, HES.out] at hrow
        have ho : Only (fun i => i = ge) w5 (((((((((((((((w5.setCell ⟨ge, k * 15, none⟩ (.int .i64 ev.th)).setCell ⟨ge, k * 15 + 1, none⟩ (.bool ev.back)).setCell ⟨ge, k * 15 + 2, none⟩ (.int .i64 ev.c.op)).setCell ⟨ge, k * 15 + 3, none⟩ (.int .i64 ev.c.l)).setCell ⟨ge, k * 15 + 4, none⟩ (.int .i64 ev.c.key)).setCell ⟨ge, k * 15 + 5, none⟩ (.int .u64 ev.c.pa)).setCell ⟨ge, k * 15 + 6, none⟩ (.int .u64 ev.c.pb)).setCell ⟨ge, k * 15 + 7, none⟩ (.int .u64 ev.c.hd)).setCell ⟨ge, k * 15 + 8, none⟩ (.int .i64 ev.c.r)).setCell ⟨ge, k * 15 + 9, none⟩ (.int .i64 ev.a.e)).setCell ⟨ge, k * 15 + 10, none⟩ (.int .u64 ev.a.a)).setCell ⟨ge, k * 15 + 11, none⟩ (.int .u64 ev.a.b)).setCell ⟨ge, k * 15 + 12, none⟩ (.int .u64 ev.a.h)).setCell ⟨ge, k * 15 + 13, none⟩ (.int .i64 ev.a.n)).setCell ⟨ge, k * 15 + 14, none⟩ (.int .i64 ev.a.k)) := by
          (repeat (with_reducible refine Only.setCell ?_ (by show ge = ge; rfl) _))
          with_reducible exact Only.refl _ _
        have hsg : sb ≠ ge := fun e => by
          rcases R5.spt.2 with ⟨h, _⟩ | ⟨g', cap', cur, h2, h3, h4, _⟩
          · cases h
          · cases h2
            rcases R5.evs.2 with ⟨h, _⟩ | ⟨g2, cap2, cur2, f2, f3, f4, _⟩
            · cases h
            · cases f2
              rw [e, f4] at h4
              simp at h4
        refine ⟨⟨Below.only R5.bel ho R5.bel.size (fun i hi => by omega), ?_, hrow⟩, fun j hj => ?_⟩
        · refine ⟨R5.spt.1, ?_⟩
          rcases R5.spt.2 with h | ⟨g', cap', cur, h2, h3, h4, h5⟩
          · exact .inl h
          · cases h2
            exact .inr ⟨_, c2, cur, rfl, h3, (ho.2 _ (Array.getElem?_eq_some_iff.1 h4).1 hsg).trans h4, h5⟩
        · have h1 := flatF_get evF_len (evsK L S k) k j hkl hj
          have h2 : (evF (evN (evsK L S k) k))[j]? = some ((evF (evN (evsK L S k) k))[j]'(by rw [evF_len]; exact hj)) := List.getElem?_eq_getElem _
          rw [h2]
          exact own_cellAt R5.evs (h1.trans h2)
      refine wp_region_noPanic ?_
      refine wp_region_held_drew (S := fun w' => w'.cell? ⟨bx, 1, none⟩ = some (.int .i64 xk) ∧ w'.cell? ⟨bx, 2, none⟩ = some (.int .i64 (t : Nat)) ∧ LiesC w' (some ⟨b, off, none⟩) (flatF opF L)) (by kernel_rfl) (HS.out _ (Only.refl _ _).drew) (fun hHeld => ?_)
      (refine wpAnyH_take (i := 0) (v := ?_) rfl (by kernel_rfl) (by kernel_rfl) (by kernel_rfl) (fun _ _ _ h => h) (Or.inl ⟨by rfl, ?_⟩) hHeld ?_; rotate_left; focus (intro w hSw; (try dsimp only at hSw); go_simp; (try with_reducible rfl)))
      try simp only [Act.put, List.getElem_toArray, List.getElem_cons_succ, List.getElem_cons_zero, List.setIfInBounds_toArray, List.set_cons_zero, List.set_cons_succ]
      (refine wpAnyH_take (i := 1) (v := ?_) rfl (by kernel_rfl) (by kernel_rfl) (by kernel_rfl) (fun _ _ _ h => h) (Or.inl ⟨by rfl, ?_⟩) hHeld ?_; rotate_left; focus (intro w hSw; (try dsimp only at hSw); go_simp; (try with_reducible rfl)))
      try simp only [Act.put, List.getElem_toArray, List.getElem_cons_succ, List.getElem_cons_zero, List.setIfInBounds_toArray, List.set_cons_zero, List.set_cons_succ]
      (refine wpAnyH_take (i := 2) (v := ?_) rfl (by kernel_rfl) (by kernel_rfl) (by kernel_rfl) (fun _ _ _ h => h) (Or.inl ⟨by rfl, ?_⟩) hHeld ?_; rotate_left; focus (intro w hSw; (try dsimp only at hSw); go_simp; (try with_reducible rfl)))
      try simp only [Act.put, List.getElem_toArray, List.getElem_cons_succ, List.getElem_cons_zero, List.setIfInBounds_toArray, List.set_cons_zero, List.set_cons_succ]
      (refine wpAnyH_take (i := 3) (v := ?_) rfl (by kernel_rfl) (by kernel_rfl) (by kernel_rfl) (fun _ _ _ h => h) (Or.inl ⟨by rfl, ?_⟩) hHeld ?_; rotate_left; focus (intro w hSw; (try dsimp only at hSw); go_simp; (try with_reducible rfl)))
      try simp only [Act.put, List.getElem_toArray, List.getElem_cons_succ, List.getElem_cons_zero, List.setIfInBounds_toArray, List.set_cons_zero, List.set_cons_succ]
      (refine wpAnyH_take (i := 4) (v := ?_) rfl (by kernel_rfl) (by kernel_rfl) (by kernel_rfl) (fun _ _ _ h => h) (Or.inl ⟨by rfl, ?_⟩) hHeld ?_; rotate_left; focus (intro w hSw; (try dsimp only at hSw); go_simp; (try with_reducible rfl)))
      try simp only [Act.put, List.getElem_toArray, List.getElem_cons_succ, List.getElem_cons_zero, List.setIfInBounds_toArray, List.set_cons_zero, List.set_cons_succ]
      (refine wpAnyH_take (i := 5) (v := ?_) rfl (by kernel_rfl) (by kernel_rfl) (by kernel_rfl) (fun _ _ _ h => h) (Or.inl ⟨by rfl, ?_⟩) hHeld ?_; rotate_left; focus (intro w hSw; (try dsimp only at hSw); go_simp; (try with_reducible rfl)))
      try simp only [Act.put, List.getElem_toArray, List.getElem_cons_succ, List.getElem_cons_zero, List.setIfInBounds_toArray, List.set_cons_zero, List.set_cons_succ]
      first | (refine wpAnyH_take (i := 6) (v := _) rfl (by kernel_rfl) (by kernel_rfl) (by kernel_rfl) (fun _ _ _ h => h) (yieldsIf_load_mid (by rfl) 39 _ rfl b (off + t * 16) rfl (opF (oprN L t)) _ (fun w' hw' => LiesC.rangeS (show LiesC w' (some ⟨b, off, none⟩) (flatF opF L) from hw'.2.2) (by rw [HLM.out]; exact htm)) Try.underlying39 rfl (by kernel_rfl)) hHeld ?_)
      try simp only [Act.put, List.getElem_toArray, List.getElem_cons_succ, List.getElem_cons_zero, List.setIfInBounds_toArray, List.set_cons_zero, List.set_cons_succ]
      (refine wpAnyH_take (i := 7) (v := ?_) rfl (by kernel_rfl) (by kernel_rfl) (by kernel_rfl) (fun _ _ _ h => h) (Or.inl ⟨by rfl, ?_⟩) hHeld ?_; rotate_left; focus (intro w hSw; (try dsimp only at hSw); go_simp; (try with_reducible rfl)))
      try simp only [Act.put, List.getElem_toArray, List.getElem_cons_succ, List.getElem_cons_zero, List.setIfInBounds_toArray, List.set_cons_zero, List.set_cons_succ]
      (refine wpAnyH_take (i := 8) (v := ?_) rfl (by kernel_rfl) (by kernel_rfl) (by kernel_rfl) (fun _ _ _ h => h) (Or.inl ⟨by rfl, ?_⟩) hHeld ?_; rotate_left; focus (intro w hSw; (try dsimp only at hSw); go_simp; (try with_reducible rfl)))
      try simp only [Act.put, List.getElem_toArray, List.getElem_cons_succ, List.getElem_cons_zero, List.setIfInBounds_toArray, List.set_cons_zero, List.set_cons_succ]
      (refine wpAnyH_ready (rs := [9]) (by kernel_rfl) (by simp) ?_; refine AllReadyH.cons rfl (fun K hK => ?_) AllReadyH.nil; go_simp; (go_at_call 23; refine (HC.out _).mono ?_; rintro r w5 ⟨rfl, hb5⟩; have HO5 := Lib.hid ((Only.refl (fun i => i = ge) W2).drew.then hb5); have R5 := HR2.out.keep ((Below.refl _ _).drew.trans hb5); have HFN := Lib.hid (HST.out w5 R5 (Nat.le_trans hbx hb5.size)); obtain ⟨m0, m1, m2, m3, m4, m5, m6, m7, m8, m9, m10, m11, m12, m13, m14⟩ := ev_cells (HFN.out.2); have mf := fun j => own_frozenAt R5.evs j; clear R5); (try go_wp2_with fail); refine hK.out _ _ ?_ (fun hHeld' => ?_); (focus ((first | (with_reducible exact HS.out _ HO5.out) | (with_reducible refine HS.out _ (HO5.out.trans ?_); (repeat (with_reducible refine Only.setCell ?_ (by show ge = ge; rfl) _)); with_reducible exact Only.refl _ _)))); clear hK K; replace hHeld := hHeld'; clear hHeld')
      try simp only [Act.put, List.getElem_toArray, List.getElem_cons_succ, List.getElem_cons_zero, List.setIfInBounds_toArray, List.set_cons_zero, List.set_cons_succ]
      (refine wpAnyH_take (i := 10) (v := ?_) rfl (by kernel_rfl) (by kernel_rfl) (by kernel_rfl) (fun _ _ _ h => h) (Or.inl ⟨by rfl, ?_⟩) hHeld ?_; rotate_left; focus (intro w hSw; (try dsimp only at hSw); go_simp; (try with_reducible rfl)))
      try simp only [Act.put, List.getElem_toArray, List.getElem_cons_succ, List.getElem_cons_zero, List.setIfInBounds_toArray, List.set_cons_zero, List.set_cons_succ]
      (refine wpAnyH_ready (rs := [11]) (by kernel_rfl) (by simp) ?_; refine AllReadyH.cons rfl (fun K hK => ?_) AllReadyH.nil; go_simp; skip; (try go_wp2_with fail); refine hK.out _ _ ?_ (fun hHeld' => ?_); (focus ((first | (with_reducible exact HS.out _ HO5.out) | (with_reducible refine HS.out _ (HO5.out.trans ?_); (repeat (with_reducible refine Only.setCell ?_ (by show ge = ge; rfl) _)); with_reducible exact Only.refl _ _)))); clear hK K; replace hHeld := hHeld'; clear hHeld')
      try simp only [Act.put, List.getElem_toArray, List.getElem_cons_succ, List.getElem_cons_zero, List.setIfInBounds_toArray, List.set_cons_zero, List.set_cons_succ]
      refine wpAnyH_done (by kernel_rfl) ?_ _
      refine NoPanic.normal ?_
      have HFO := Lib.hid HFN.out.1
      clear HFN HST hb5 HO5 HR2 HS hHeld m0 m1 m2 m3 m4 m5 m6 m7 m8 m9 m10 m11 m12 m13 m14 mf
      go_wp2_with fail
      go_roundw
      case rel => exact ⟨k + 1, by go_num, by omega, HFO.out⟩
      case measure => simp [intOf]; omega
    · obtain rfl : k = S.length := by omega
      have HR := Lib.hid R
      clear R
      go_wp2_with fail
      go_ret
      refine ⟨_, rfl, ?_, far_of_own HR.out.evs, HR.out.bel⟩
      have h := lnIs_of_own HR.out.evs
      rw [evsK_end] at h
      rw [HEL.out]
      exact h
end Go.Proofs.Ytckcliimngeieaa
