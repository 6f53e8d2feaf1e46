/- share.those. -/
import Derived.Test.YtodomchanaaonaaShareFns
namespace Go.Proofs.Ytodomchanaaonaa
open Go.ChangeShapes Go.WideShapes Go.ChangeAt Go.RowKit

set_option maxHeartbeats 2000000 in
/-- Those that are wanted, whatever tells which. -/
theorem those_any (gf : Nat) (lb : Array Value) (eg : ∀ args w, (callFunc gf args).run Try.prog w = .ok (.enter gf args) w) (p : Opr → Bool) (A : Option Addr) (c : Nat) (L : List Opr) (hL : L.length ≤ 1000000) (w : World)
    (hC : ∀ i W, i < L.length → Below w.heap.size w W → Calls Try.prog gf (#[.agg (opF (oprN L i)).toArray] ++ lb) W fun e W' => e = .returned (.bool (p (oprN L i))) ∧ Below W.heap.size W W') (ha : LiesC w A (flatF opF L)) :
    Calls Try.prog 18 #[.slice A L.length c, .func (.func gf) #[] lb] w fun e w' => ∃ v, e = .returned v ∧ LnIs w' v (keepUp p L L.length).length (flatF opF (keepUp p L L.length)) ∧ Far w.heap.size v ∧ Below w.heap.size w w' := by
  obtain ⟨i0, hi0, hz0, hz1, hz3⟩ := infoOpr
  have HA := Lib.hid ha
  have HC := Lib.hid hC
  have hkl := keepUp_len p L
  clear ha hC
  generalize hn : L.length = n at *
  go_enter Try.func18, Try.ntmps18
  go_wp2_with fail
  go_loopw [5, 10] (fun v i wr => ∃ k : Nat, i = .int .i64 k ∧ k ≤ n ∧ OwnR w w.heap.size 35 16 v (keepUp p L k).length (flatF opF (keepUp p L k)) wr) (fun _ i _ => n - (intOf i).toNat)
  case atStart => exact ⟨0, rfl, Nat.zero_le _, Below.refl _ _, World.ownsRow_nil _ _ _ _, Nat.le_refl _⟩
  case round =>
    obtain ⟨k, rfl, hk, R⟩ := hrel
    have hkk := hkl k
    by_cases hlt : k < n
    · obtain ⟨b1, off1, rfl, hb1, x1⟩ := (HA.out.keep R.bel).atO (by omega)
      obtain ⟨p0, p1, p2, p3, p4, p5, p6, p7, p8, p9, p10, p11, p12, p13, p14, p15⟩ := opr_cells (x1 k (by omega))
      have HS : Hid (keepUp p L (k + 1) = bif p (oprN L k) then keepUp p L k ++ [oprN L k] else keepUp p L k) := Lib.hid rfl
      have HR := Lib.hid R
      have HCk := Lib.hid (fun W hb => HC.out k W (by omega) hb)
      clear x1 R HC
      generalize keepUp p L k = xs at *
      go_upto_region 5 with fail
      generalize hW : World.alloc _ _ = W
      obtain ⟨hB, hx⟩ := one_cells _ _ _ W hW
      obtain ⟨q0, q1, q2, q3, q4, q5, q6, q7, q8, q9, q10, q11, q12, q13, q14, q15⟩ := opr_cells (w := W) (b := wr.heap.size) (o := 0) (x := oprN L k) (fun j _ => by rw [Nat.zero_add]; exact hx.cell j)
      simp only [Nat.zero_add] at q1 q2 q3 q4 q5 q6 q7 q8 q9 q10 q11 q12 q13 q14 q15
      have HRW := Lib.hid (HR.out.keep hB)
      have HX := Lib.hid hx
      have HCW := Lib.hid (HCk.out W HRW.out.bel)
      clear hW hB HR HCk p0 p1 p2 p3 p4 p5 p6 p7 p8 p9 p10 p11 p12 p13 p14 p15 hb1 hx
      generalize oprN L k = o at *
      have hfold : (#[.int .i64 o.th, .int .i64 o.c.op, .int .i64 o.c.l, .int .i64 o.c.key, .int .u64 o.c.pa, .int .u64 o.c.pb, .int .u64 o.c.hd, .int .i64 o.c.r, .int .i64 o.a.e, .int .u64 o.a.a, .int .u64 o.a.b, .int .u64 o.a.h, .int .i64 o.a.n, .int .i64 o.a.k, .int .i64 o.fr, .int .i64 o.to] : Array Value) = (opF o).toArray := rfl
      have HRC := Lib.hid (And.intro HRW.out HX.out)
      clear HRW HX
      go_wp2_with fail
      refine HCW.out.mono ?_
      rintro e w1 ⟨rfl, hb⟩
      have HR1 := Lib.hid (HRC.out.1.keep hb)
      have hx1 := HRC.out.2.keep hb
      obtain ⟨q0, q1, q2, q3, q4, q5, q6, q7, q8, q9, q10, q11, q12, q13, q14, q15⟩ := opr_cells (w := w1) (b := wr.heap.size) (o := 0) (x := o) (fun j _ => by rw [Nat.zero_add]; exact hx1.cell j)
      simp only [Nat.zero_add] at q1 q2 q3 q4 q5 q6 q7 q8 q9 q10 q11 q12 q13 q14 q15
      clear hb hx1 HCW HRC
      generalize p o = b at *
      cases b
      · go_wp2_with fail
        go_roundw
        case rel => exact ⟨k + 1, by go_num, by omega, by rw [HS.out]; exact HR1.out⟩
        case measure => simp [intOf]; omega
      · clear hfold
        go_wp2_with (at_builtin; refine wpList_append_own _ rfl _ _ 22 rfl w.heap.size 35 i0 (.agg (opF ⟨0, zeroC, zeroA, 0, 0⟩).toArray) 16 128 Try.underlying22 hi0 hz0 hz1 hz3 rfl (by decide) _ _ _ rfl (HR1.out.own.alloc _) ⟨w1.heap.size, 0, none⟩ 1 1 (opF o) rfl rfl (Cells.new w1 (opF o).toArray 35).news (opF_one o) ?c3 ?c4 ?c5 ?_)
        case c3 => unfold maxLen; omega
        case c4 => omega
        case c5 => have := HR1.out.le; simp; omega
        intro v' w2 hown' hgrow _
        have HZ := Lib.hid ((HR1.out.alloc _).grow hown' hgrow)
        clear hown' hgrow
        go_wp2_with fail
        go_roundw
        case rel => exact ⟨k + 1, by go_num, by omega, by rw [HS.out]; simp only [cond]; rw [List.length_append, flatF_append, flatF_single]; exact HZ.out⟩
        case measure => simp [intOf]; omega
    · obtain rfl : k = n := by omega
      go_wp2_with fail
      go_ret
      exact ⟨_, rfl, lnIs_of_own R.own, far_of_own R.own, R.bel⟩
end Go.Proofs.Ytodomchanaaonaa
