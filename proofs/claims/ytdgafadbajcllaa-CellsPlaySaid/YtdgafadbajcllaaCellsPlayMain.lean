/- The walk of CellsPlay: the main way. -/
import Derived.Test.YtdgafadbajcllaaCellsPlay
namespace Go.Proofs.Ytdgafadbajcllaa
open Go.ChangeShapes Go.WideShapes Go.ChangeAt Go.RowKit

section
variable (A : Option Addr) (n c : Nat) (f : Nat → Nat) (hf : ∀ i, f i < 18446744073709551616) (B : Option Addr) (m cB : Nat) (O : Nat → Opn) (o : Opn) (w : World)
include hf
set_option maxRecDepth 100000 in
set_option maxHeartbeats 4000000 in
theorem cellsPlay_main (h1 : 1 ≤ n) (h2 : n ≤ 4096) (hm : m ≤ 60) (hO : ∀ i, i < m → OkO (O i)) (ho : OkO o) (hr : RowIs w A n (us f)) (hrB : RowIs w B (m * 4) (fun i => opR (O (i / 4)) (i % 4))) :
    Calls Try.prog 3 #[.slice A n c, .slice B m cB, .agg (rowOf 4 (opR o))] w fun e w' => e = .returned (.bool true) ∧ Below w.heap.size w w' := by
  have C9 := Lib.hid fun W => cLives W
  have C1 := Lib.hid fun W hr => cOf_yes A n c f h1 h2 W hr
  have hok := mem0_ok h1 h2 hf
  have CS : Hid (∀ s, OkM s → ∀ g h A c W, MemIs W g h s → RowIs W A s.n (us s.f) → Calls Try.prog 8 #[.pointer (some ⟨g, 0, none⟩), memL (.slice A s.n c) s] W fun e w' => e = .returned (.bool true) ∧ Below W.heap.size W w') := Lib.hid fun s hs g h A c W hm hA => cSameL s hs g h A c W hm hA
  have HO := Lib.hid (And.intro hO ho)
  clear hf
  clear hO ho
  go_enter Try.func3, Try.ntmps3
  go_upto_region 1 with fail
  generalize hW : World.alloc _ _ = W
  have ho1 : Row W w.heap.size 26 4 (opR o) := by rw [← hW]; exact Row.new _ _ _ _ _ rfl
  have hB : Below w.heap.size w W := by rw [← hW]; exact (Below.refl _ _).alloc (Nat.le_refl _) _
  have hrW := hr.below hB
  clear hW
  have hA0 : ∀ p, A = some p → p.block < w.heap.size := fun p hp => by
    obtain ⟨b, off, e, hb, -⟩ := hr (by omega)
    rw [e] at hp; cases hp; exact hb
  generalize hz : w.heap.size = a1 at *
  have HZ := Lib.hid hz; clear hz
  have HB := Lib.hid (And.intro hB (And.intro hrW (And.intro ho1 hA0))); clear hB hrW hr ho1 hA0
  go_upto_region 6 with (go_at_call 6; refine (C1.out _ HB.out.2.1).mono ?_; rintro e w1 ⟨g, h, rfl, hm1, hb1, hg, hh⟩)
  have H1 := Lib.hid (And.intro hm1 (And.intro hb1 (And.intro hg hh)))
  clear hm1 hb1 hg hh C1
  go_upto_region 7 with fail
  generalize hW : World.alloc _ _ = W2
  have R : PlayR w a1 g h w1.heap.size o (mem0 n f) A c W2 := by
    have e1 := H1.out.1.row.lt
    have e2 := H1.out.1.words.lt
    have e3 := HB.out.2.2.1.lt
    have e4 := H1.out.2.1.size
    have e5 := H1.out.2.2
    have hB2 : Below a1 w w1 := below_on HB.out.1 (Nat.le_of_eq HZ.out.symm) H1.out.2.1
    refine ⟨by rw [← hW]; exact hB2.alloc (by omega) _, by rw [← hW]; exact H1.out.1.keep ((Below.refl _ _).alloc (Nat.le_refl _) _), hok, by rw [← hW]; exact Row.new _ _ _ _ _ rfl, by rw [← hW]; exact (HB.out.2.1.below H1.out.2.1).below ((Below.refl _ _).alloc (Nat.le_refl _) _), fun p hp => ?_, by rw [← hW]; exact (HB.out.2.2.1.keep H1.out.2.1).alloc _, ⟨by omega, by omega, by omega⟩, by omega, by omega⟩
    have := HB.out.2.2.2 p hp
    exact ⟨by omega, by omega, by omega⟩
  generalize w1.heap.size = X at *
  have RH := Lib.hid R
  obtain ⟨u0, u1, u2, u3, u4, u5⟩ := row_cells R.x
  have C2 := CS.out (mem0 n f) hok g h A c W2 R.mem R.a
  clear hW R H1 HB
  have C2h := Lib.hid C2; clear C2
  go_wp2_with (go_at_call 8; refine (C2h.out).mono ?_; rintro e w3 ⟨rfl, hb3⟩)
  have R3 := RH.out.keep hb3
  clear RH hb3 C2h u0 u1 u2 u3 u4 u5
  go_loopw [9] (fun i wr => ∃ (k : Nat) (s : Mem) (A' : Option Addr) (c' : Nat), i = .int .i64 k ∧ k ≤ m ∧ s.acc = k ∧ PlayR w a1 g h X o s A' c' wr) (fun i _ => m - (intOf i).toNat)
  case atStart => exact ⟨0, mem0 n f, A, c, rfl, Nat.zero_le _, rfl, R3⟩
  case round =>
    obtain ⟨k, s, A', c', rfl, hk, hacc, R⟩ := hrel
    by_cases hlt : k < m
    · obtain ⟨b, off, rfl, hbb, hcell⟩ := hrB (by omega)
      have e0 : (k * 4 + 0) / 4 = k ∧ (k * 4 + 0) % 4 = 0 := by omega
      have e1 : (k * 4 + 1) / 4 = k ∧ (k * 4 + 1) % 4 = 1 := by omega
      have e2 : (k * 4 + 2) / 4 = k ∧ (k * 4 + 2) % 4 = 2 := by omega
      have e3 : (k * 4 + 3) / 4 = k ∧ (k * 4 + 3) % 4 = 3 := by omega
      have z0 := hcell (k * 4 + 0) (by omega)
      have z1 := hcell (k * 4 + 1) (by omega)
      have z2 := hcell (k * 4 + 2) (by omega)
      have z3 := hcell (k * 4 + 3) (by omega)
      simp only [e0.1, e0.2, e1.1, e1.2, e2.1, e2.2, e3.1, e3.2] at z0 z1 z2 z3
      have hba : b < a1 := by rw [← HZ.out]; exact hbb
      have HY : Hid (∀ W, Below a1 w W → W.cell? ⟨b, off + k * 4, none⟩ = some (.int .i64 (O k).k) ∧ W.cell? ⟨b, off + k * 4 + 1, none⟩ = some (.int .i64 (O k).a) ∧ W.cell? ⟨b, off + k * 4 + 2, none⟩ = some (.int .u64 ((O k).old : Nat)) ∧ W.cell? ⟨b, off + k * 4 + 3, none⟩ = some (.int .u64 ((O k).v : Nat))) := Lib.hid fun W hb =>
        ⟨by rw [hb.cell (p := ⟨b, off + k * 4, none⟩) hba]; exact z0, by rw [hb.cell (p := ⟨b, off + k * 4 + 1, none⟩) hba]; exact z1, by rw [hb.cell (p := ⟨b, off + k * 4 + 2, none⟩) hba]; exact z2, by rw [hb.cell (p := ⟨b, off + k * 4 + 3, none⟩) hba]; exact z3⟩
      clear z0 z1 z2 z3 e0 e1 e2 e3 hcell hbb
      obtain ⟨y0, y1, y2, y3⟩ := HY.out wr R.below
      have hoK := HO.out.1 k hlt
      have hacc2 : s.acc < 4611686018427387903 := by rw [hacc]; omega
      have D1 : Calls Try.prog 9 #[.pointer (some ⟨g, 0, none⟩), .agg #[.int .i64 (O k).k, .int .i64 (O k).a, .int .u64 ((O k).old : Nat), .int .u64 ((O k).v : Nat)]] wr fun e w' => e = .returned (.tuple #[.int .u64 (doV s (O k) : Nat), .bool (doB s (O k))]) ∧ MemIs w' g h (doM s (O k)) ∧ Only (Two g h) wr w' :=
        cOp_any s R.ok hacc2 (O k) g h wr R.mem
      have D2 : ∀ W, RowIs W A' s.n (us s.f) → Calls Try.prog 10 #[memL (.slice A' s.n c') s, .agg #[.int .i64 (O k).k, .int .i64 (O k).a, .int .u64 ((O k).old : Nat), .int .u64 ((O k).v : Nat)]] W fun e w' =>
          ∃ A2 c2, e = .returned (.tuple #[memL (.slice A2 (doM s (O k)).n c2) (doM s (O k)), .int .u64 (doV s (O k) : Nat), .bool (doB s (O k))]) ∧ RowIs w' A2 (doM s (O k)).n (us (doM s (O k)).f) ∧ Below W.heap.size W w' ∧ ∀ a, A2 = some a → A' = some a ∨ W.heap.size ≤ a.block :=
        fun W hA => cDo_any A' c' s R.ok (O k) W hA
      have hs2 : OkM (doM s (O k)) ∧ (doM s (O k)).acc = (k : Int) + 1 := ⟨okM_do R.ok hacc2 (O k) hoK, by rw [doM_acc, hacc]⟩
      generalize doM s (O k) = s2 at *
      generalize doV s (O k) = u at *
      generalize doB s (O k) = bb at *
      generalize O k = ok at *
      have D1h := Lib.hid D1; have D2h := Lib.hid D2; have RH := Lib.hid R; have S2 := Lib.hid hs2
      clear D1 D2 R hs2 hacc2 hoK hacc
      unfold memL at D2h
      go_upto_region 13 with (go_at_call 9; with_reducible refine (D1h.out).mono ?_; rintro e w1 ⟨rfl, hm1, ho1⟩)
      have hB1 : Below a1 w w1 := Below.only RH.out.below ho1 (Nat.le_of_lt RH.out.op.lt) (fun i hi => by have := RH.out.lt; rcases hi with rfl | rfl <;> omega)
      have hx1 : Row w1 X 31 6 (memV (.slice A' s.n c') s) := RH.out.x.only ho1 (by have := RH.out.ne; rintro (e | e) <;> omega)
      have hA1 : RowIs w1 A' s.n (us s.f) := RH.out.a.only ho1 (fun p hp => by have := RH.out.apart p hp; rintro (e | e) <;> omega)
      have hop1 : Row w1 a1 26 4 (opR o) := RH.out.op.only ho1 (by have := RH.out.lt; rintro (e | e) <;> omega)
      have hsz1 : g < w1.heap.size ∧ h < w1.heap.size ∧ X < w1.heap.size := ⟨hm1.row.lt, hm1.words.lt, hx1.lt⟩
      clear y0 y1 y2 y3
      obtain ⟨y0, y1, y2, y3⟩ := HY.out w1 hB1
      obtain ⟨u0, u1, u2, u3, u4, u5⟩ := row_cells hx1
      have HAlt : Hid (∀ p, A' = some p → p.block < w1.heap.size) := Lib.hid fun p hp => by
        obtain ⟨b', off', e, hb', -⟩ := hA1 RH.out.ok.pos
        rw [e] at hp; cases hp; exact hb'
      have H1 := Lib.hid (And.intro hB1 (And.intro hop1 (And.intro hm1 (And.intro hx1 (And.intro hA1 hsz1)))))
      clear hB1 hop1 hm1 hx1 hA1 hsz1 ho1 D1h HY
      have hfar : ∀ p : Addr, p.block < w1.heap.size → (w1.alloc (.cells #[.slice none 0 0, .int .i64 0, .int .i64 0, .int .i64 0, .bool false, .bool false] 31)).cell? p = w1.cell? p := fun p hp => ((Below.refl w1.heap.size w1).alloc (Nat.le_refl _) _).cell hp
      have hbs : b < w1.heap.size := by have := H1.out.2.1.lt; omega
      have U0 := (hfar ⟨X, 0, none⟩ H1.out.2.2.2.2.2.2.2).trans u0
      have U1 := (hfar ⟨X, 1, none⟩ H1.out.2.2.2.2.2.2.2).trans u1
      have U2 := (hfar ⟨X, 2, none⟩ H1.out.2.2.2.2.2.2.2).trans u2
      have U3 := (hfar ⟨X, 3, none⟩ H1.out.2.2.2.2.2.2.2).trans u3
      have U4 := (hfar ⟨X, 4, none⟩ H1.out.2.2.2.2.2.2.2).trans u4
      have U5 := (hfar ⟨X, 5, none⟩ H1.out.2.2.2.2.2.2.2).trans u5
      have Y0 := (hfar ⟨b, off + k * 4, none⟩ hbs).trans y0
      have Y1 := (hfar ⟨b, off + k * 4 + 1, none⟩ hbs).trans y1
      have Y2 := (hfar ⟨b, off + k * 4 + 2, none⟩ hbs).trans y2
      have Y3 := (hfar ⟨b, off + k * 4 + 3, none⟩ hbs).trans y3
      clear hfar hbs
      have HA1d : Hid (RowIs (w1.alloc (.cells (rowOf 6 (memV (.slice none 0 0) (mem0 0 fun _ => 0))) 31)).drew A' s.n (us s.f) ∧ Row (w1.alloc (.cells (rowOf 6 (memV (.slice none 0 0) (mem0 0 fun _ => 0))) 31)).drew w1.heap.size 31 6 (memV (.slice none 0 0) (mem0 0 fun _ => 0))) :=
        Lib.hid ⟨(H1.out.2.2.2.2.1.below ((Below.refl _ _).alloc (Nat.le_refl _) _)).drew, (Row.new w1 _ _ _ 6 rfl).drew⟩
      go_cut [12, 13, 14] (fun y sv st wx => ∃ Y A2 c2, y = .pointer (some ⟨Y, 0, none⟩) ∧ sv = .int .u64 (u : Nat) ∧ st = .bool bb ∧ DoneR w1 A' s2 Y A2 c2 wx)
      case first =>
        go_region_with (go_at_call 10; first | (refine (D2h.out _ H1.out.2.2.2.2.1.drew).mono ?_; rintro e w2 ⟨A2, c2, rfl, hA2, hb2, hap2⟩) | (refine (D2h.out _ HA1d.out.1).mono ?_; rintro e w2 ⟨A2, c2, rfl, hA2, hb2, hap2⟩; have hY := HA1d.out.2.keep hb2; obtain ⟨q0, q1, q2, q3, q4, q5⟩ := row_cells hY; obtain ⟨v0, v1, v2, v3, v4, v5⟩ := row_frozen hY; have HYh := Lib.hid hY; clear hY))
        all_goals
          go_wp2_with fail
          go_meet
          first
            | (have hyy := HYh.out; exact ⟨w1.heap.size, A2, c2, rfl, rfl, rfl, doneR_b hA2 hb2 hap2 HAlt.out hyy⟩)
            | exact ⟨w2.heap.size, A2, c2, rfl, rfl, rfl, doneR_a hA2 hb2 hap2⟩
      case rest =>
        obtain ⟨Y, A2, c2, rfl, rfl, rfl, hD⟩ := hcut
        clear u0 u1 u2 u3 u4 u5 y0 y1 y2 y3 U0 U1 U2 U3 U4 U5 Y0 Y1 Y2 Y3 HA1d D2h
        obtain ⟨y0, y1, y2, y3, y4, y5⟩ := row_cells hD.y
        have hxc := H1.out.2.2.2.1.keep hD.below
        obtain ⟨u0, u1, u2, u3, u4, u5⟩ := row_cells hxc
        obtain ⟨v0, v1, v2, v3, v4, v5⟩ := row_frozen hxc
        have hXY : X ≠ Y := by have := hD.far; have := H1.out.2.2.2.2.2.2.2; omega
        have hYX := hXY.symm
        have HD := Lib.hid hD; clear hD hxc
        go_upto_region 15 with fail
        generalize hW4 : World.setCell _ _ _ = W4
        have R4 : PlayR w a1 g h X o s2 A2 c2 W4 := by
          have ho := six_only0 (.slice A2 s2.n c2) s2 wc X
          rw [hW4] at ho
          obtain ⟨q1, q2, q3, q4, q5, q6, q7, q8⟩ := H1.out
          have l1 := RH.out.lt
          have l2 := RH.out.ne
          have l3 := HD.out.below.size
          have hap : ∀ p, A2 = some p → p.block ≠ g ∧ p.block ≠ h ∧ p.block ≠ X := fun p hp => by
            rcases HD.out.apart p hp with e | e
            · exact RH.out.apart p e
            · exact ⟨by omega, by omega, by omega⟩
          have hx4 := six_row (.slice A2 s2.n c2) s2 (H1.out.2.2.2.1.keep HD.out.below)
          rw [hW4] at hx4
          exact ⟨Below.only (q1.trans (HD.out.below.mono (Nat.le_of_lt q2.lt))) ho (by have := q2.lt; omega) (fun i e => by have e' : i = X := e; omega), (q3.keep HD.out.below).only ho (fun e => by have e' : g = X := e; omega) (fun e => by have e' : h = X := e; omega), S2.out.1, hx4,
            HD.out.a.only ho (fun p hp e => (hap p hp).2.2 e), hap, (q2.keep HD.out.below).only ho (fun e => by have e' : a1 = X := e; omega), l1, l2⟩
        clear hW4 u0 u1 u2 u3 u4 u5 y0 y1 y2 y3 y4 y5 v0 v1 v2 v3 v4 v5 HD H1 hXY hYX
        obtain ⟨u0, u1, u2, u3, u4, u5⟩ := row_cells R4.x
        have C4 := CS.out s2 S2.out.1 g h A2 c2 W4 R4.mem R4.a
        have R4h := Lib.hid R4
        have C4h := Lib.hid C4
        clear R4 C4
        go_wp2_with (go_at_call 8; refine (C4h.out).mono ?_; rintro e w5 ⟨rfl, hb5⟩)
        have R5 := R4h.out.keep hb5
        clear R4h hb5 C4h u0 u1 u2 u3 u4 u5
        go_roundw
        case rel => exact ⟨k + 1, s2, A2, c2, by go_num, by omega, by rw [S2.out.2]; omega, R5⟩
        case measure => simp [intOf]; omega
    · obtain rfl : k = m := by omega
      have hacc2 : s.acc < 4611686018427387903 := by rw [hacc]; omega
      have CC := Lib.hid (cClone_any s g h wr R.mem R.ok.pos R.ok.top)
      have D1 : ∀ g2 h2 W, MemIs W g2 h2 s → Calls Try.prog 9 #[.pointer (some ⟨g2, 0, none⟩), .agg #[.int .i64 o.k, .int .i64 o.a, .int .u64 (o.old : Nat), .int .u64 (o.v : Nat)]] W fun e w' => e = .returned (.tuple #[.int .u64 (doV s o : Nat), .bool (doB s o)]) ∧ MemIs w' g2 h2 (doM s o) ∧ Only (Two g2 h2) W w' :=
        fun g2 h2 W hm => cOp_any s R.ok hacc2 o g2 h2 W hm
      have D2 : ∀ W, RowIs W A' s.n (us s.f) → Calls Try.prog 10 #[memL (.slice A' s.n c') s, .agg #[.int .i64 o.k, .int .i64 o.a, .int .u64 (o.old : Nat), .int .u64 (o.v : Nat)]] W fun e w' =>
          ∃ A2 c2, e = .returned (.tuple #[memL (.slice A2 (doM s o).n c2) (doM s o), .int .u64 (doV s o : Nat), .bool (doB s o)]) ∧ RowIs w' A2 (doM s o).n (us (doM s o).f) ∧ Below W.heap.size W w' ∧ ∀ a, A2 = some a → A' = some a ∨ W.heap.size ≤ a.block :=
        fun W hA => cDo_any A' c' s R.ok o W hA
      have hs3 : OkM (doM s o) := okM_do R.ok hacc2 o HO.out.2
      generalize doM s o = s3 at *
      generalize doV s o = u at *
      generalize doB s o = bb at *
      have D1h := Lib.hid D1; have D2h := Lib.hid D2; have RH := Lib.hid R; have S3 := Lib.hid hs3
      clear D1 D2 R hs3 hacc2 hacc
      unfold memL at D2h
      go_upto_region 18 with (go_at_call 11; refine (CC.out).mono ?_; rintro e w1 ⟨g2, h2, rfl, hm1, hb1, hg2, hh2⟩)
      have R1 := RH.out.keep hb1
      obtain ⟨u0, u1, u2, u3, u4, u5⟩ := row_cells R1.x
      have H1 := Lib.hid (And.intro hm1 (And.intro hb1 (And.intro hg2 (And.intro hh2 R1))))
      clear hm1 hb1 hg2 hh2 R1 CC
      go_upto_region 20 with (go_at_call 8; refine (CS.out s RH.out.ok g2 h2 A' c' _ H1.out.1 H1.out.2.2.2.2.a).mono ?_; rintro e w2 ⟨rfl, hb2⟩)
      have R2 := H1.out.2.2.2.2.keep hb2
      have hm2 := H1.out.1.keep hb2
      clear u0 u1 u2 u3 u4 u5
      obtain ⟨o0, o1, o2, o3⟩ := op_cells R2.op
      have H2 := Lib.hid (And.intro hm2 (And.intro (Below.trans H1.out.2.1 (hb2.mono H1.out.2.1.size)) R2))
      clear hm2 R2 hb2
      go_upto_region 21 with (go_at_call 9; with_reducible refine (D1h.out _ _ _ H2.out.1).mono ?_; rintro e w3 ⟨rfl, hm3, ho3⟩)
      have R3 : PlayR w a1 g h X o s A' c' w3 := RH.out.far H2.out.2.1 ho3 (fun i hi => by rcases hi with e | e <;> rw [e]; exact H1.out.2.2.1; exact H1.out.2.2.2.1)
      clear o0 o1 o2 o3
      obtain ⟨o0, o1, o2, o3⟩ := op_cells R3.op
      obtain ⟨u0, u1, u2, u3, u4, u5⟩ := row_cells R3.x
      have H3 := Lib.hid (And.intro hm3 R3)
      clear hm3 R3 ho3 D1h H2 RH
      go_upto_region 22 with (go_at_call 10; refine (D2h.out _ H3.out.2.a).mono ?_; rintro e w4 ⟨A2, c2, rfl, hA2, hb4, hap2⟩)
      generalize hW5 : World.alloc _ _ = W5
      have hb5 : Below w4.heap.size w4 W5 := by rw [← hW5]; exact (Below.refl _ _).alloc (Nat.le_refl _) _
      have hY : Row W5 w4.heap.size 31 6 (memV (.slice A2 s3.n c2) s3) := by rw [← hW5]; exact Row.new _ _ _ _ 6 rfl
      have hm5 := (H3.out.1.keep hb4).keep hb5
      have R5 := (H3.out.2.keep hb4).keep hb5
      have hA5 := hA2.below hb5
      clear hW5 u0 u1 u2 u3 u4 u5 o0 o1 o2 o3 hb5 hb4 hA2 hap2
      obtain ⟨y0, y1, y2, y3, y4, y5⟩ := row_cells hY
      have H5 := Lib.hid (And.intro hm5 (And.intro hA5 R5))
      clear hm5 hA5 R5 hY H3 D2h
      have HK : Hid (∀ W, Below W5.heap.size W5 W → W.cell? ⟨X, 0, none⟩ = some (.slice A' s.n c') ∧ W.cell? ⟨X, 1, none⟩ = some (.int .i64 s.acc) ∧ W.cell? ⟨X, 2, none⟩ = some (.int .i64 s.wr) ∧ W.cell? ⟨X, 3, none⟩ = some (.int .i64 s.la) ∧ W.cell? ⟨X, 4, none⟩ = some (.bool s.named) ∧ W.cell? ⟨X, 5, none⟩ = some (.bool s.fault)) :=
        Lib.hid fun W hb => row_cells (H5.out.2.2.keep hb).x
      have K6 : Hid (∀ W, Below W5.heap.size W5 W → PlayR w a1 g h X o s A' c' W) := Lib.hid fun W hb => H5.out.2.2.keep hb
      have P1 := Lib.hid (CS.out s3 S3.out g2 h2 A2 c2 W5 H5.out.1 H5.out.2.1)
      have P2 : Hid (∀ W, Below W5.heap.size W5 W → Calls Try.prog 8 #[.pointer (some ⟨g, 0, none⟩), memL (.slice A' s.n c') s] W fun e w' => e = .returned (.bool true) ∧ Below W.heap.size W w') := Lib.hid fun W hb => CS.out s (H5.out.2.2).ok g h A' c' W (H5.out.2.2.keep hb).mem (H5.out.2.2.keep hb).a
      clear CS
      unfold memL at P1 P2
      go_wp2_with (first | (go_at_call 7; refine (C9.out _).mono ?_; rintro e w8 ⟨rfl, hb8⟩) | (go_at_call 8; with_reducible refine (P1.out).mono ?_; rintro e w6 ⟨rfl, hb6⟩; obtain ⟨x0, x1, x2, x3, x4, x5⟩ := HK.out _ hb6) | (go_at_call 8; with_reducible refine (P2.out _ hb6).mono ?_; rintro e w7 ⟨rfl, hb7⟩))
      go_ret
      refine ⟨rfl, ?_⟩
      rw [HZ.out]
      exact (((K6.out _ hb6).keep hb7).keep hb8).below

theorem cellsPlay_walk (hn : n ≤ 9223372036854775807) (hm : m ≤ 9223372036854775807) (hO : ∀ i, i < m → OkO (O i)) (ho : OkO o) (hr : RowIs w A n (us f)) (hrB : RowIs w B (m * 4) (fun i => opR (O (i / 4)) (i % 4))) :
    Calls Try.prog 3 #[.slice A n c, .slice B m cB, .agg (rowOf 4 (opR o))] w fun e w' => e = .returned (.bool true) ∧ Below w.heap.size w w' := by
  by_cases h1 : n < 1 ∨ 4096 < n
  · exact cellsPlay_none A n c hn B m cB o w h1
  by_cases hl : 60 < m
  · exact cellsPlay_long A n c f B m cB o w (by omega) (by omega) hm hl hr
  · exact cellsPlay_main A n c f hf B m cB O o w (by omega) (by omega) (by omega) hO ho hr hrB
end
end Go.Proofs.Ytdgafadbajcllaa
