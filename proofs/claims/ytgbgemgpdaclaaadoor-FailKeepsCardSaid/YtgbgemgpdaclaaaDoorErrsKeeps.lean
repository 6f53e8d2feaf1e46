/- The walk of law FailKeeps. -/
import Derived.Test.YtgbgemgpdaclaaaDoorErrsOf
import Derived.Test.YtgbgemgpdaclaaaDoorErrGreat
import Derived.Deep.RegionHeld3
namespace Go.Proofs.YtgbgemgpdaclaaaDoor
set_option linter.unusedSimpArgs false
open Go.ChangeShapes Go.WideShapes Go.RowKit
theorem fold5k (v : Value) (e : ErrS) : (#[.int .i64 e.t, .int .i64 e.l, .string (sB e.what), .int .i64 e.c, v] : Array Value) = rowOf 5 (errV v e) := rfl
theorem err_is (t l : Int) (s : List UInt8) (i : Errs) (w : World) (h : ErrsIs w i) (bt : -9223372036854775808 ≤ t ∧ t ≤ 9223372036854775807) (bl : -9223372036854775808 ≤ l ∧ l ≤ 9223372036854775807) (hs : s.length ≤ 200) :
    ErrsIs (w.alloc (.cells #[.int .i64 t, .int .i64 l, .string (sB s), i.val] 45)) (.err w.heap.size t l s i) := by
  refine ⟨by simp, ?_, ?_, ?_, ?_, bt, bl, hs, h.top_le, h.below ((Below.refl _ _).alloc (Nat.le_refl _) _)⟩
  · simp
  · simp
  · simp
  · simp

set_option maxHeartbeats 8000000 in
theorem failKeeps_walk (A : Option Addr) (n cA : Nat) (e : ErrS) (s : List UInt8) (p q : Int) (hs : OkS e n) (bp : -9223372036854775808 ≤ p ∧ p ≤ 9223372036854775807) (bq : -9223372036854775808 ≤ q ∧ q ≤ 9223372036854775807) (W : World) (hr : RowIs W A n (fun i => .string (sB (e.notes i)))) (hg : ErrT W) (ht : TabW W) :
    Calls Tryd.prog 5 #[.agg (rowOf 5 (errV (.slice A n cA) e)), .string (sB s), .agg #[.int .i64 p, .int .i64 q]] W fun r W' => r = .returned (.bool true) ∧ Below W.heap.size W W' := by
  have HG := Lib.hid hg; have HT := Lib.hid ht; have HS := Lib.hid hs; have HR := Lib.hid hr
  clear hg ht hs hr
  have hsz := sB_size s
  go_enter Tryd.func5, Tryd.ntmps5
  go_upto_region 1 with fail
  generalize hW2 : World.alloc (World.alloc _ _) _ = W1
  have hB : Below W.heap.size W W1 := by rw [← hW2]; exact ((Below.refl _ _).alloc (Nat.le_refl _) _).alloc (by simp) _
  have hlt : W.heap.size + 1 < W1.heap.size := by rw [← hW2]; simp
  have hx : Row W1 W.heap.size 25 5 (errV (.slice A n cA) e) := by rw [← hW2]; exact (Row.new _ _ _ _ _ rfl).alloc _
  have k0 : W1.cell? ⟨W.heap.size + 1, 0, none⟩ = some (.int .i64 p) := by rw [← hW2]; simp
  have k1 : W1.cell? ⟨W.heap.size + 1, 1, none⟩ = some (.int .i64 q) := by rw [← hW2]; simp
  clear hW2
  have HB := Lib.hid hB; have HLT := Lib.hid hlt; have HX := Lib.hid hx; have HK0 := Lib.hid k0; have HK1 := Lib.hid k1
  obtain ⟨u0, u1, u2, u3, u4⟩ := err_cells hx
  have f5 := fold5k (.slice A n cA) e
  clear hx hB hlt k0 k1
  by_cases hbig : 200 < s.length
  · have t1 : (200 : Int) < (((sB s).size : Nat) : Int) := by rw [hsz]; omega
    generalize sB s = S at *
    go_wp2_with fail
    refine (great_any A n cA e HS.out _ (HR.out.below HB.out)).mono ?_
    rintro r w1 ⟨hres, hb1⟩
    have d1 := HB.out.trans (hb1.mono (Nat.le_of_lt (Nat.lt_of_succ_lt HLT.out)))
    have HX1 := Lib.hid (HX.out.below hb1 (Nat.lt_of_succ_lt HLT.out))
    clear u0 u1 u2 u3 u4
    obtain ⟨v0, v1, v2, v3, v4⟩ := err_cells HX1.out
    rcases hres with ⟨rfl, hok⟩ | rfl
    · go_wp2_with fail
      refine (lives_any _ (HT.out.below d1)).mono ?_
      rintro r w2 ⟨rfl, hb2⟩
      go_wp2_with fail
      go_ret
      exact ⟨rfl, d1.trans (hb2.mono d1.size)⟩
    · go_wp2_with fail
      refine (lives_any _ (HT.out.below d1)).mono ?_
      rintro r w2 ⟨rfl, hb2⟩
      go_wp2_with fail
      go_ret
      exact ⟨rfl, d1.trans (hb2.mono d1.size)⟩
  have hs2 : s.length ≤ 200 := by omega
  have t1 : ¬ (200 : Int) < (((sB s).size : Nat) : Int) := by rw [hsz]; omega
  go_wp2_with fail
  refine (great_any A n cA e HS.out _ (HR.out.below HB.out)).mono ?_
  rintro r w1 ⟨hres, hb1⟩
  have d1 := HB.out.trans (hb1.mono (Nat.le_of_lt (Nat.lt_of_succ_lt HLT.out)))
  have HX1 := Lib.hid (HX.out.below hb1 (Nat.lt_of_succ_lt HLT.out))
  clear u0 u1 u2 u3 u4
  obtain ⟨v0, v1, v2, v3, v4⟩ := err_cells HX1.out
  rcases hres with ⟨rfl, hok⟩ | rfl
  rotate_left
  · go_wp2_with fail
    refine (lives_any _ (HT.out.below d1)).mono ?_
    rintro r w2 ⟨rfl, hb2⟩
    go_wp2_with fail
    go_ret
    exact ⟨rfl, d1.trans (hb2.mono d1.size)⟩
  go_wp2_with fail
  refine (of_any A n cA e hok _ (HR.out.below d1)).mono ?_
  rintro r w2 ⟨x, rfl, hm, hx, hb2⟩
  have d2 := d1.trans (hb2.mono d1.size)
  have HM := Lib.hid hm; have HO := Lib.hid hok
  have k0 := (hb2.cell (Nat.lt_of_lt_of_le HLT.out hb1.size)).trans ((hb1.cell HLT.out).trans HK0.out)
  have k1 := (hb2.cell (Nat.lt_of_lt_of_le HLT.out hb1.size)).trans ((hb1.cell HLT.out).trans HK1.out)
  have hlt2 : W.heap.size + 1 < w2.heap.size := Nat.lt_of_lt_of_le HLT.out (Nat.le_trans hb1.size hb2.size)
  have HK2 := Lib.hid k0; have HK3 := Lib.hid k1; have HL2 := Lib.hid hlt2
  clear v0 v1 v2 v3 v4 k0 k1 hlt2 f5 hok
  by_cases hc : e.c = 0
  · obtain rfl := hm.no hc
    clear hc
    have CW : Hid (∀ w', Below W.heap.size W w' → Calls Tryd.prog 9 #[.nilIface] w' fun r w'' => r = .returned (.tuple #[.int .i64 0, .int .i64 0, .bool false]) ∧ Below w'.heap.size w' w'') := Lib.hid (fun w' hb => where_any .no w' True.intro (HG.out.below hb))
    have CC : Hid (∀ w', Below W.heap.size W w' → Calls Tryd.prog 12 #[.nilIface] w' fun r w'' => r = .returned (.int .i64 0) ∧ Below w'.heap.size w' w'') := Lib.hid (fun w' hb => code_any .no w' True.intro (HG.out.below hb))
    have CI : Hid (∀ w', Calls Tryd.prog 13 #[.nilIface, .int .i64 0] w' fun r w'' => r = .returned (.bool true) ∧ w' = w'') := Lib.hid (fun w' => fIs_any .no 0 w' True.intro)
    simp only [Errs.val]
    go_wp2_with fail
    with_reducible refine (note_no _ _).mono ?_
    rintro r w' ⟨rfl, rfl⟩
    go_wp2_with fail
    with_reducible refine (CW.out _ d2).mono ?_
    rintro r w3 ⟨rfl, hb3⟩
    have d3 := d2.trans (hb3.mono d2.size)
    go_wp2_with fail
    with_reducible refine (CW.out _ d3).mono ?_
    rintro r w4 ⟨rfl, hb4⟩
    have d4 := d3.trans (hb4.mono d3.size)
    go_wp2_with fail
    with_reducible refine (CC.out _ d4).mono ?_
    rintro r w5 ⟨rfl, hb5⟩
    have d5 := d4.trans (hb5.mono d4.size)
    go_wp2_with fail
    with_reducible refine (CC.out _ d5).mono ?_
    rintro r w6 ⟨rfl, hb6⟩
    have d6 := d5.trans (hb6.mono d5.size)
    go_wp2_with fail
    with_reducible refine (CC.out _ d6).mono ?_
    rintro r w7 ⟨rfl, hb7⟩
    have d7 := d6.trans (hb7.mono d6.size)
    go_wp2_with fail
    with_reducible refine (CI.out _).mono ?_
    rintro r w' ⟨rfl, rfl⟩
    go_wp2_with fail
    with_reducible refine (lives_any _ (HT.out.below d7)).mono ?_
    rintro r w8 ⟨rfl, hb8⟩
    go_wp2_with fail
    go_ret
    exact ⟨rfl, d7.trans (hb8.mono d7.size)⟩
  obtain ⟨U, v, hv⟩ := val_iface x (hm.ne hc)
  have hp : x.placeIn = some (e.t, e.l) := by
    rcases hm with ⟨h, _⟩ | ⟨_, _, _, _, h, _⟩
    · exact absurd h hc
    · exact h
  have hd : x.deep = n + 1 := by
    rcases hm with ⟨h, _⟩ | ⟨_, _, _, _, _, h⟩
    · exact absurd h hc
    · exact h
  have hci : x.codeIn = some e.c := by
    rcases hm with ⟨h, _⟩ | ⟨_, _, _, h, _⟩
    · exact absurd h hc
    · exact h
  have hxn : x ≠ .no := hm.ne hc
  have hco : x.codeOf = e.c := by
    have h2 : x.codeOf = x.codeIn.getD 14 := by cases x <;> first | rfl | exact absurd rfl hxn
    rw [h2, hci]; rfl
  have n40 := HO.out.n40
  -- the note, and the Error around it
  have CN : Hid (∀ w', ErrsIs w' x → Calls Tryd.prog 16 #[.string (sB s), .iface U v] w' fun r w'' => r = .returned (.iface 58 (.pointer (some ⟨w'.heap.size, 0, none⟩))) ∧ ErrsIs w'' (.note w'.heap.size s x) ∧ Below w'.heap.size w' w'') := Lib.hid (fun w' h => by
    have h2 := note_any s x w' hxn h hs2
    rw [hv] at h2
    exact h2)
  have W1_ : Hid (∀ w', ErrsIs w' x → ErrT w' → Calls Tryd.prog 9 #[.iface U v] w' fun r w'' => r = .returned (.tuple #[.int .i64 e.t, .int .i64 e.l, .bool true]) ∧ Below w'.heap.size w' w'') := Lib.hid (fun w' h hg => by
    have h2 := where_any x w' h hg
    unfold Errs.wT Errs.wL at h2
    rw [hv, hp] at h2
    exact h2)
  have W2_ : Hid (∀ g w', ErrsIs w' (.note g s x) → ErrT w' → Calls Tryd.prog 9 #[.iface 58 (.pointer (some ⟨g, 0, none⟩))] w' fun r w'' => r = .returned (.tuple #[.int .i64 e.t, .int .i64 e.l, .bool true]) ∧ Below w'.heap.size w' w'') := Lib.hid (fun g w' h hg => by
    have h2 := where_any (.note g s x) w' h hg
    unfold Errs.wT Errs.wL Errs.placeIn at h2
    rw [hp] at h2
    exact h2)
  have W3_ : Hid (∀ g2 g w', ErrsIs w' (.err g2 p q s (.note g s x)) → ErrT w' → Calls Tryd.prog 9 #[.iface 41 (.pointer (some ⟨g2, 0, none⟩))] w' fun r w'' => r = .returned (.tuple #[.int .i64 p, .int .i64 q, .bool true]) ∧ Below w'.heap.size w' w'') := Lib.hid (fun g2 g w' h hg => where_any (.err g2 p q s (.note g s x)) w' h hg)
  have K1_ : Hid (∀ w', ErrsIs w' x → ErrT w' → Calls Tryd.prog 12 #[.iface U v] w' fun r w'' => r = .returned (.int .i64 e.c) ∧ Below w'.heap.size w' w'') := Lib.hid (fun w' h hg => by
    have h2 := code_any x w' h hg
    rw [hco, hv] at h2
    exact h2)
  have K2_ : Hid (∀ g w', ErrsIs w' (.note g s x) → ErrT w' → Calls Tryd.prog 12 #[.iface 58 (.pointer (some ⟨g, 0, none⟩))] w' fun r w'' => r = .returned (.int .i64 e.c) ∧ Below w'.heap.size w' w'') := Lib.hid (fun g w' h hg => by
    have h2 := code_any (.note g s x) w' h hg
    rw [show (Errs.note g s x).codeOf = e.c from by show x.codeIn.getD 14 = e.c; rw [hci]; rfl] at h2
    exact h2)
  have K3_ : Hid (∀ g2 g w', ErrsIs w' (.err g2 p q s (.note g s x)) → ErrT w' → Calls Tryd.prog 12 #[.iface 41 (.pointer (some ⟨g2, 0, none⟩))] w' fun r w'' => r = .returned (.int .i64 e.c) ∧ Below w'.heap.size w' w'') := Lib.hid (fun g2 g w' h hg => by
    have h2 := code_any (.err g2 p q s (.note g s x)) w' h hg
    rw [show (Errs.err g2 p q s (.note g s x)).codeOf = e.c from by show x.codeIn.getD 14 = e.c; rw [hci]; rfl] at h2
    exact h2)
  have I2_ : Hid (∀ g w', ErrsIs w' (.note g s x) → Calls Tryd.prog 13 #[.iface 58 (.pointer (some ⟨g, 0, none⟩)), .int .i64 e.c] w' fun r w'' => r = .returned (.bool true) ∧ w' = w'') := Lib.hid (fun g w' h => by
    have h2 := fIs_any (.note g s x) e.c w' h
    rw [show (Errs.note g s x).isOf e.c = true from by show decide (x.codeIn = some e.c) = true; rw [hci]; simp] at h2
    exact h2)
  have hdn : ∀ g, (Errs.note g s x).deep = n + 1 + 1 := fun g => by
    rw [deep_more (.note g s x) hxn]
    show 1 + x.deep = _
    omega
  have hde : ∀ g2 g, (Errs.err g2 p q s (.note g s x)).deep = n + 1 + 1 + 1 := fun g2 g => by
    rw [deep_more (.err g2 p q s (.note g s x)) (by intro h; cases h)]
    show 1 + (Errs.note g s x).deep = _
    rw [hdn]; omega
  have P1_ : Hid (∀ w', ErrsIs w' x → Calls Tryd.prog 14 #[.iface U v] w' fun r w'' => r = .returned (.int .i64 ((n : Int) + 1)) ∧ w' = w'') := Lib.hid (fun w' h => by
    have h2 := deep_any x w' h (by omega)
    rw [hd, hv] at h2
    exact h2)
  have P2_ : Hid (∀ g w', ErrsIs w' (.note g s x) → Calls Tryd.prog 14 #[.iface 58 (.pointer (some ⟨g, 0, none⟩))] w' fun r w'' => r = .returned (.int .i64 ((n : Int) + 1 + 1)) ∧ w' = w'') := Lib.hid (fun g w' h => by
    have h2 := deep_any (.note g s x) w' h (by rw [hdn]; omega)
    rw [hdn] at h2
    exact h2)
  have P3_ : Hid (∀ g2 g w', ErrsIs w' (.err g2 p q s (.note g s x)) → Calls Tryd.prog 14 #[.iface 41 (.pointer (some ⟨g2, 0, none⟩))] w' fun r w'' => r = .returned (.int .i64 ((n : Int) + 1 + 1 + 1)) ∧ w' = w'') := Lib.hid (fun g2 g w' h => by
    have h2 := deep_any (.err g2 p q s (.note g s x)) w' h (by rw [hde]; omega)
    rw [hde] at h2
    exact h2)
  have HE_ : Hid (∀ g (w' : World), ErrsIs w' (.note g s x) → ErrsIs (w'.alloc (.cells #[.int .i64 p, .int .i64 q, .string (sB s), .iface 58 (.pointer (some ⟨g, 0, none⟩))] 45)) (.err w'.heap.size p q s (.note g s x))) := Lib.hid (fun g w' h => err_is p q s (.note g s x) w' h bp bq hs2)
  rw [hv]
  generalize hS : sB s = S at *
  generalize hm1 : ((n : Int) + 1) = m1 at *
  have hmb : 0 ≤ m1 ∧ m1 ≤ 41 := by omega
  clear hS hm1 hv hp hd hco hci hxn n40 hdn hde hc hm hs2
  go_wp2_with fail
  with_reducible refine (CN.out _ hx).mono ?_
  rintro r w3 ⟨rfl, hn3, hb3⟩
  have d3 := d2.trans (hb3.mono d2.size)
  have hx3 := hx.below hb3
  have hlt3 := Nat.lt_of_lt_of_le HL2.out hb3.size
  have HK4 := Lib.hid ((hb3.cell HL2.out).trans HK2.out); have HK5 := Lib.hid ((hb3.cell HL2.out).trans HK3.out)
  generalize w2.heap.size = g at *
  go_wp2_with fail
  with_reducible refine (W1_.out _ hx3 (HG.out.below d3)).mono ?_
  rintro r w4 ⟨rfl, hb4⟩
  have d4 := d3.trans (hb4.mono d3.size)
  have hn4 := hn3.below hb4
  go_wp2_with fail
  with_reducible refine (W2_.out _ _ hn4 (HG.out.below d4)).mono ?_
  rintro r w5 ⟨rfl, hb5⟩
  have d5 := d4.trans (hb5.mono d4.size)
  have hn5 := hn4.below hb5
  go_wp2_with fail
  with_reducible refine (K2_.out _ _ hn5 (HG.out.below d5)).mono ?_
  rintro r w6 ⟨rfl, hb6⟩
  have d6 := d5.trans (hb6.mono d5.size)
  have hn6 := hn5.below hb6
  go_wp2_with fail
  with_reducible refine (K1_.out _ hn6.inner (HG.out.below d6)).mono ?_
  rintro r w7 ⟨rfl, hb7⟩
  have d7 := d6.trans (hb7.mono d6.size)
  have hn7 := hn6.below hb7
  go_wp2_with fail
  with_reducible refine (K1_.out _ hn7.inner (HG.out.below d7)).mono ?_
  rintro r w8 ⟨rfl, hb8⟩
  have d8 := d7.trans (hb8.mono d7.size)
  have hn8 := hn7.below hb8
  go_wp2_with fail
  with_reducible refine (I2_.out _ _ hn8).mono ?_
  rintro r w' ⟨rfl, rfl⟩
  have b8 : Below w3.heap.size w3 w8 := (((hb4.trans (hb5.mono hb4.size)).trans (hb6.mono (Nat.le_trans hb4.size hb5.size))).trans (hb7.mono (Nat.le_trans (Nat.le_trans hb4.size hb5.size) hb6.size))).trans (hb8.mono (Nat.le_trans (Nat.le_trans (Nat.le_trans hb4.size hb5.size) hb6.size) hb7.size))
  have k0 := (b8.cell hlt3).trans HK4.out
  have k1 := (b8.cell hlt3).trans HK5.out
  have hn9 := HE_.out g w8 hn8
  have d9 : Below W.heap.size W (w8.alloc (.cells #[.int .i64 p, .int .i64 q, .string S, .iface 58 (.pointer (some ⟨g, 0, none⟩))] 45)) := d8.alloc d8.size _
  go_wp2_with fail
  with_reducible refine (W3_.out _ _ _ hn9 (HG.out.below d9)).mono ?_
  rintro r w10 ⟨rfl, hb10⟩
  have d10 := d9.trans (hb10.mono d9.size)
  have hA : Below w8.heap.size w8 (w8.alloc (.cells #[.int .i64 p, .int .i64 q, .string S, .iface 58 (.pointer (some ⟨g, 0, none⟩))] 45)) := (Below.refl _ _).alloc (Nat.le_refl _) _
  have b10 := hA.trans (hb10.mono hA.size)
  have k2 := (b10.cell (Nat.lt_of_lt_of_le hlt3 b8.size)).trans k0
  have k3 := (b10.cell (Nat.lt_of_lt_of_le hlt3 b8.size)).trans k1
  have hn10 := hn9.below hb10
  go_wp2_with fail
  with_reducible refine (P2_.out _ _ hn10.inner).mono ?_
  rintro r w' ⟨rfl, rfl⟩
  go_wp2_with fail
  with_reducible refine (P1_.out _ hn10.inner.inner).mono ?_
  rintro r w' ⟨rfl, rfl⟩
  go_wp2_with fail
  with_reducible refine (P3_.out _ _ _ hn10).mono ?_
  rintro r w' ⟨rfl, rfl⟩
  go_wp2_with fail
  with_reducible refine (P2_.out _ _ hn10.inner).mono ?_
  rintro r w' ⟨rfl, rfl⟩
  go_wp2_with fail
  with_reducible refine (K3_.out _ _ _ hn10 (HG.out.below d10)).mono ?_
  rintro r w11 ⟨rfl, hb11⟩
  have d11 := d10.trans (hb11.mono d10.size)
  have hn11 := hn10.below hb11
  go_wp2_with fail
  with_reducible refine (K1_.out _ hn11.inner.inner (HG.out.below d11)).mono ?_
  rintro r w12 ⟨rfl, hb12⟩
  have d12 := d11.trans (hb12.mono d11.size)
  go_wp2_with fail
  with_reducible refine (lives_any _ (HT.out.below d12)).mono ?_
  rintro r w13 ⟨rfl, hb13⟩
  go_wp2_with fail
  go_ret
  exact ⟨rfl, d12.trans (hb13.mono d12.size)⟩
end Go.Proofs.YtgbgemgpdaclaaaDoor
