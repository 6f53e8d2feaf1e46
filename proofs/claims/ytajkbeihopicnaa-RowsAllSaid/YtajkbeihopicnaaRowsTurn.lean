/- The walk of RowsTurn. -/
import Derived.Test.YtajkbeihopicnaaRef10
import Derived.Test.YtajkbeihopicnaaRowEq
import Derived.Test.YtajkbeihopicnaaRowLives
namespace Go.Proofs.Ytajkbeihopicnaa
open Go.ChangeShapes Go.WideShapes Go.ChangeAt Go.RowKit Go.Shelf

theorem same_told {L : List Rw} (hL : L.length ≤ 1000000) (v u : Value) (w : World) (hv : Told w v L) (hu : Told w u L) : Calls Try.prog 13 #[v, u] w fun e w' => e = .returned (.bool true) ∧ Drew w w' := by
  obtain ⟨A1, c1, rfl, l1⟩ := hv
  obtain ⟨A2, c2, rfl, l2⟩ := hu
  have h := rSameRef_any A1 A2 c1 c2 L L hL hL w l1 l2
  rw [decide_eq_true rfl] at h
  exact h
theorem told_lies {w : World} {A : Option Addr} {c m : Nat} {L : List Rw} (hm : L.length = m) (h : Lies w A L) : Told w (.slice A m c) L := ⟨A, c, by rw [hm], h⟩
theorem putL_length (L : List Rw) (x : Rw) : (putL L x).length ≤ L.length + 1 := by
  unfold putL
  cases isAt L x.k
  · show (L.take (findN L x.k) ++ x :: L.drop (findN L x.k)).length ≤ _
    simp only [List.length_append, List.length_take, List.length_cons, List.length_drop]; omega
  · show L.length ≤ _; omega
theorem dropL_length (L : List Rw) (key : Int) : (dropL L key).length ≤ L.length := by
  unfold dropL
  cases isAt L key
  · exact Nat.le_refl _
  · show (L.take (findN L key) ++ L.drop (findN L key + 1)).length ≤ _
    simp only [List.length_append, List.length_take, List.length_drop]; omega

theorem rowsTurn_long (A : Option Addr) (c : Nat) (L : List Rw) (hL : 200 < L.length) (hM : L.length ≤ 9223372036854775807) (x : Rw) (key : Int) (w : World) :
    Calls Try.prog 3 #[.slice A L.length c, .agg #[.int .i64 x.k, .int .u64 (x.a : Nat), .int .u64 (x.b : Nat)], .int .i64 key] w fun e w' => e = .returned (.bool true) ∧ Below w.heap.size w w' := by
  have C9 := Lib.hid fun W => lives10_any W
  generalize hm : L.length = m at *
  go_enter Try.func3, Try.ntmps3
  go_wp2_with (go_at_call 6; refine (C9.out _).mono ?_; rintro e w' ⟨rfl, hb⟩)
  all_goals first
    | (exfalso; omega)
    | (go_ret; exact ⟨rfl, ((Below.refl _ w).alloc (Nat.le_refl _) _).trans (hb.mono (by simp))⟩)

/-- What stands between two calls of the law. -/
structure TurnR (w W : World) (L : List Rw) (g c : Nat) (x : Rw) : Prop where
  bel : Below w.heap.size w W
  own : W.ownsRow (w.heap.size + 1) 27 3 (.slice (some ⟨g, 0, none⟩) L.length c) L.length (flat L)
  box : Box3 W w.heap.size x
  c1 : L.length ≤ c
  c2 : c ≤ maxLen
theorem TurnR.keep {w W W' : World} {L : List Rw} {g c : Nat} {x : Rw} (h : TurnR w W L g c x) (hb : Below W.heap.size W W') : TurnR w W' L g c x :=
  ⟨h.bel.trans (hb.mono h.bel.size), own_at h.own hb, (hb.block w.heap.size h.box.lt).trans h.box, h.c1, h.c2⟩
theorem TurnR.lies {w W : World} {L : List Rw} {g c : Nat} {x : Rw} (h : TurnR w W L g c x) : Lies W (some ⟨g, 0, none⟩) L := by
  obtain ⟨A, c', e, _, _, hl⟩ := lies_of_own h.own
  cases e
  exact hl

set_option maxHeartbeats 4000000 in
set_option maxRecDepth 100000 in
theorem rowsTurn_short (A : Option Addr) (c : Nat) (L : List Rw) (hL : L.length ≤ 200) (x : Rw) (key : Int) (w : World) (hl : Lies w A L) :
    Calls Try.prog 3 #[.slice A L.length c, .agg #[.int .i64 x.k, .int .u64 (x.a : Nat), .int .u64 (x.b : Nat)], .int .i64 key] w fun e w' => e = .returned (.bool true) ∧ Below w.heap.size w w' := by
  have C9 := Lib.hid fun W => lives10_any W
  have hb3 : Box3 (w.alloc (.cells #[.int .i64 x.k, .int .u64 (x.a : Nat), .int .u64 (x.b : Nat)] 27)) w.heap.size x := Box3.new w x
  have hb1 : Below w.heap.size w (w.alloc (.cells #[.int .i64 x.k, .int .u64 (x.a : Nat), .int .u64 (x.b : Nat)] 27)) := (Below.refl _ w).alloc (Nat.le_refl _) _
  obtain ⟨i0, hi0, hz0, hz1, hz3⟩ := infoR
  have C1 := Lib.hid (fun W h => rPut_any A c L (by omega) x W h)
  have C2 := Lib.hid (fun g c2 W h1 h2 h => rPutRef_any ⟨g, 0, none⟩ c2 L (by omega) h1 h2 x W h)
  have C3 := Lib.hid (fun W h => rDrop_any A c L (by omega) key W h)
  have C4 := Lib.hid (fun g c2 W h1 h2 h => rDropRef_any ⟨g, 0, none⟩ c2 L (by omega) h1 h2 key W h)
  have C5 := Lib.hid (fun W h => rAt_any A c L (by omega) key W h)
  have C6 := Lib.hid (fun g c2 W h => rAtRef_any (some ⟨g, 0, none⟩) c2 L (by omega) key W h)
  have C7 := Lib.hid (fun W h => rRises_any A c L (by omega) W h)
  have C8 := Lib.hid (fun v u W h1 h2 => same_told (L := L) (by omega) v u W h1 h2)
  have C10 := Lib.hid (fun v u W h1 h2 => same_told (L := putL L x) (by have := putL_length L x; omega) v u W h1 h2)
  have C11 := Lib.hid (fun v u W h1 h2 => same_told (L := dropL L key) (by have := dropL_length L key; omega) v u W h1 h2)
  have HQ := fun W => eql_rw W (dropX L key) (dropX L key)
  rw [decide_eq_true rfl] at HQ
  have HB := Lib.hid (fun W => Box3.new W (dropX L key))
  have HP : Hid (rises L = risesTo L (L.length - 1)) := Lib.hid rfl
  generalize hm : L.length = m at *
  generalize dropX L key = dx at *
  generalize putL L x = pl at *
  generalize dropL L key = dl at *
  generalize isAt L x.k = ia at *
  generalize isAt L key = ib at *
  generalize findN L key = fk at *
  generalize hri : rises L = ri at *
  rcases dx with ⟨dk, da, db⟩
  dsimp only at *
  clear hri
  have HM := Lib.hid hm; clear hm
  have hsz : (w.alloc (.cells #[.int .i64 x.k, .int .u64 (x.a : Nat), .int .u64 (x.b : Nat)] 27)).heap.size = w.heap.size + 1 := by simp
  have H := Lib.hid (And.intro hb3 (And.intro hb1 (And.intro hl hsz))); clear hb3 hb1 hl hsz
  go_enter Try.func3, Try.ntmps3
  go_upto_region 3 with fail
  generalize hW1 : w.alloc (.cells #[.int .i64 x.k, .int .u64 (x.a : Nat), .int .u64 (x.b : Nat)] 27) = W1 at *
  clear hW1
  go_cut [7] (fun s wx => ∃ g c2, s = .slice (some ⟨g, 0, none⟩) m c2 ∧ TurnR w wx L g c2 x)
  case first =>
    cases A with
    | none =>
      have h0 : L = [] := by
        rcases H.out.2.2.1 with h | ⟨b, off, e, _⟩
        · exact h
        · cases e
      have h1 : m = 0 := by rw [← HM.out, h0]; rfl
      subst h1
      subst h0
      go_wp2_with fail
      go_meet
      have hsz := H.out.2.2.2
      exact ⟨_, _, rfl, (H.out.2.1).alloc (by omega) _, World.ownsRow_lit (base := w.heap.size + 1) (e := 27) (size := 3) W1 #[] 0 (by omega) (by decide) rfl, H.out.1.alloc _, Nat.le_refl _, by decide⟩
    | some a =>
      go_wp2_with (at_builtin; refine wpList_append_own _ rfl _ _ 22 rfl (w.heap.size + 1) 27 i0 (.agg #[.int .i64 0, .int .u64 0, .int .u64 0]) 3 24 Try.underlying22 hi0 hz0 hz1 hz3 rfl (by decide) _ 0 [] rfl (World.ownsRow_lit _ #[] 0 (Nat.le_of_eq H.out.2.2.2.symm) (by decide) rfl) a m c (flat L) rfl (by rw [flat_length, HM.out]) (lies_news (H.out.2.2.1.keep (H.out.2.1.alloc H.out.2.1.size _))) (flat_one _) (by unfold maxLen; omega) (by omega) (by rw [World.size_alloc, H.out.2.2.2]; omega) ?_; intro v1 w3 hown hgrow hnil)
      rw [Nat.zero_add, List.nil_append] at hown
      go_meet
      have hn := HM.out
      have hsz := H.out.2.2.2
      have hb4 : Below W1.heap.size W1 w3 := below_new hgrow rfl
      have hne : v1 ≠ .slice none 0 0 := fun e => by have := (hnil.1 e).1; cases this
      rcases hown.2 with ⟨h, _⟩ | ⟨g, c2, cur, rfl, h1, h2, h3, h4, h5⟩
      · exact absurd h hne
      · exact ⟨g, c2, rfl, H.out.2.1.trans (hb4.mono H.out.2.1.size), by rw [hn]; exact hown, (hb4.block _ H.out.1.lt).trans H.out.1, by omega, h4⟩
  case rest =>
    obtain ⟨g, c2, rfl, R⟩ := hcut
    have q0 := R.box.cell0
    have q1 := R.box.cell1
    have q2 := R.box.cell2
    have R0 := Lib.hid R; clear R
    go_wp2_with (first
      | (go_at_call 7
         refine (C1.out _ (H.out.2.2.1.keep R0.out.bel)).mono ?_
         rintro e w4 ⟨v1, rfl, t1, hb⟩
         have R1 := Lib.hid (R0.out.keep hb); have T1 := Lib.hid t1; clear t1 hb q0 q1 q2
         have q0 := R1.out.box.cell0
         have q1 := R1.out.box.cell1
         have q2 := R1.out.box.cell2)
      | (go_at_call 8
         refine (C2.out _ _ _ (HM.out ▸ R1.out.c1) R1.out.c2 R1.out.lies).mono ?_
         rintro e w5 ⟨v2, rfl, t2, hb⟩
         have R2 := Lib.hid (R1.out.keep hb); have T1b := Lib.hid (T1.out.keep hb); have T2 := Lib.hid t2; clear t2 hb q0 q1 q2)
      | (go_at_call 9
         refine (C3.out _ (H.out.2.2.1.keep R2.out.bel)).mono ?_
         rintro e w6 ⟨v3, rfl, t3, hb⟩
         have R3 := Lib.hid (R2.out.keep hb); have T1c := Lib.hid (T1b.out.keep hb); have T2b := Lib.hid (T2.out.keep hb); have T3 := Lib.hid t3; clear t3 hb)
      | (go_at_call 10
         have hb6 : Below w6.heap.size w6 (w6.alloc (.cells #[.int .i64 dk, .int .u64 (da : Nat), .int .u64 (db : Nat)] 27)) := (Below.refl _ _).alloc (Nat.le_refl _) _
         have R3' := R3.out.keep hb6
         refine (C4.out _ _ _ (HM.out ▸ R3'.c1) R3'.c2 R3'.lies).mono ?_
         rintro e w7 ⟨v4, rfl, t4, hb⟩
         have B13 : Hid (Box3 w7 w6.heap.size ⟨dk, da, db⟩) := Lib.hid ((hb.block w6.heap.size (by simp)).trans (HB.out w6))
         have R4 := Lib.hid (R3'.keep hb); have T1d := Lib.hid ((T1c.out.keep hb6).keep hb); have T2c := Lib.hid ((T2b.out.keep hb6).keep hb); have T3b := Lib.hid ((T3.out.keep hb6).keep hb); have T4 := Lib.hid t4; clear t4 hb hb6 R3')
      | (go_at_call 11
         have hb7 : Below w7.heap.size w7 (w7.alloc (.cells #[.int .i64 dk, .int .u64 (da : Nat), .int .u64 (db : Nat)] 27)) := (Below.refl _ _).alloc (Nat.le_refl _) _
         have R4' := R4.out.keep hb7
         refine (C5.out _ (H.out.2.2.1.keep R4'.bel)).mono ?_
         rintro e w8 ⟨rfl, hb⟩
         have B13b : Hid (Box3 w8 w6.heap.size ⟨dk, da, db⟩) := Lib.hid (((hb7.trans (hb.mono (by simp))).block w6.heap.size B13.out.lt).trans B13.out)
         have B16 : Hid (Box3 w8 w7.heap.size ⟨dk, da, db⟩) := Lib.hid ((hb.block w7.heap.size (by simp)).trans (HB.out w7))
         have R5 := Lib.hid (R4'.keep hb); have T1e := Lib.hid ((T1d.out.keep hb7).keep hb); have T2d := Lib.hid ((T2c.out.keep hb7).keep hb); have T3c := Lib.hid ((T3b.out.keep hb7).keep hb); have T4b := Lib.hid ((T4.out.keep hb7).keep hb); clear hb hb7 R4')
      | (go_at_call 12
         refine (C6.out _ _ _ R5.out.lies).mono ?_
         rintro e w9 ⟨rfl, hd⟩
         have hb := hd.below w8.heap.size
         have B13c : Hid (Box3 w9 w6.heap.size ⟨dk, da, db⟩) := Lib.hid ((hb.block w6.heap.size B13b.out.lt).trans B13b.out)
         have B16b : Hid (Box3 w9 w7.heap.size ⟨dk, da, db⟩) := Lib.hid ((hb.block w7.heap.size B16.out.lt).trans B16.out)
         have R6 := Lib.hid (R5.out.keep hb); have T1f := Lib.hid (T1e.out.keep hb); have T2e := Lib.hid (T2d.out.keep hb); have T3d := Lib.hid (T3c.out.keep hb); have T4c := Lib.hid (T4b.out.keep hb); clear hb hd))
    clear C1 C2 C3 C4 C5 C6 R0 R1 R2 R3 R4 R5 T1 T1b T1c T1d T1e T2 T2b T2c T2d T3 T3b T3c T4 T4b B13 B13b B16 hi0 hz0 hz1 hz3
    go_loopw [22, 23] (fun r i wr => ∃ k : Nat, r = .bool (risesTo L k) ∧ i = .int .i64 ((k + 1 : Nat) : Int) ∧ (k + 1 ≤ m ∨ (k = 0 ∧ m = 0)) ∧ Drew w9 wr) (fun _ i _ => m - (intOf i).toNat)
    case atStart => exact ⟨0, rfl, rfl, by omega, Drew.refl _⟩
    case round =>
      obtain ⟨k, rfl, rfl, hk, hd⟩ := hrel
      by_cases hlt : k + 1 < m
      · have h2 : IntKind.i64.wrap (((k + 1 : Nat) : Int) + 1) = ((k + 1 + 1 : Nat) : Int) := by rw [IntKind.wrap_i64]; omega
        have h3 : decide (((k + 1 : Nat) : Int) < (m : Int)) = true := decide_eq_true (by omega)
        cases hr : risesTo L k with
        | false =>
          have HD := Lib.hid hd
          have HD1 := Lib.hid (hd.more 1)
          have hr2 : risesTo L (k + 1) = false := by unfold risesTo; rw [hr]; rfl
          have HR2 := Lib.hid hr2
          clear hd hr2 hr
          go_upto_region 14 with fail
          go_quiet (fail)
          go_wp2_with fail
          go_roundw
          case rel => exact ⟨k + 1, by rw [HR2.out], by go_num, by omega, HD.out.more _⟩
          case measure => simp [intOf]; omega
        | true =>
          obtain ⟨b1, off1, e1, _, x1⟩ := (R6.out.lies.keep (hd.below _)).at_ (by rw [HM.out]; omega)
          cases e1
          obtain ⟨p0, _, _⟩ := x1 k (by rw [HM.out]; omega)
          obtain ⟨q0, _, _⟩ := x1 (k + 1) (by rw [HM.out]; omega)
          rw [Nat.zero_add] at p0 q0
          have h1 : IntKind.i64.wrap (((k + 1 : Nat) : Int) - 1) = (k : Int) := by rw [IntKind.wrap_i64]; omega
          have HD := Lib.hid hd
          have HR2 : Hid (decide ((nth L k).k < (nth L (k + 1)).k) = risesTo L (k + 1)) := Lib.hid (by unfold risesTo; rw [hr]; rfl)
          clear hd x1 hr
          generalize hx1 : (nth L k).k = y1 at *
          generalize hx2 : (nth L (k + 1)).k = y2 at *
          clear hx1 hx2
          go_upto_region 14 with fail
          go_quiet (fail)
          go_wp2_with fail
          go_roundw
          case rel => exact ⟨k + 1, by rw [HR2.out], by go_num, by omega, HD.out.more _⟩
          case measure => simp [intOf]; omega
      · have hk' : m - 1 = k := by omega
        have h3 : decide (((k + 1 : Nat) : Int) < (m : Int)) = false := decide_eq_false (by omega)
        have hp := HP.out
        rw [hk'] at hp
        rw [← hp]
        have HD := Lib.hid hd
        clear hd hk' hp
        go_wp2_with (first
          | (go_at_call 13
             with_reducible refine (C10.out v1 v2 _ (T1f.out.keep (HD.out.below _)) (T2e.out.keep (HD.out.below _))).mono ?_
             rintro e wa ⟨rfl, hda⟩
             have DA := Lib.hid (HD.out.trans hda); clear hda)
          | (go_at_call 13
             with_reducible refine (C11.out v3 v4 _ (T3d.out.keep (DA.out.below _)) (T4c.out.keep (DA.out.below _))).mono ?_
             rintro e wb ⟨rfl, hdb⟩
             have DB := Lib.hid (DA.out.trans hdb); clear hdb
             have B1 : Box3 wb w6.heap.size ⟨dk, da, db⟩ := ((DB.out.below w9.heap.size).block w6.heap.size B13c.out.lt).trans B13c.out
             have B2 : Box3 wb w7.heap.size ⟨dk, da, db⟩ := ((DB.out.below w9.heap.size).block w7.heap.size B16b.out.lt).trans B16b.out
             have k0 := B1.cell0
             have k1 := B1.cell1
             have k2 := B1.cell2
             have l0 := B2.cell0
             have l1 := B2.cell1
             have l2 := B2.cell2
             clear B1 B2)
          | (go_at_call 14
             refine (C7.out _ (H.out.2.2.1.keep (R6.out.bel.trans (DB.out.below _)))).mono ?_
             rintro e wc ⟨rfl, hdc⟩
             have DC := Lib.hid (DB.out.trans hdc); clear hdc)
          | (go_at_call 13
             with_reducible refine (C8.out (.slice A m c) (.slice (some ⟨g, 0, none⟩) m c2) _ (told_lies HM.out (H.out.2.2.1.keep (R6.out.bel.trans (DC.out.below _)))) (told_lies HM.out (R6.out.lies.keep (DC.out.below _)))).mono ?_
             rintro e we ⟨rfl, hde⟩
             have DE := Lib.hid (DC.out.trans hde); clear hde)
          | (go_at_call 6
             refine (C9.out _).mono ?_
             rintro e wf ⟨rfl, hbf⟩
             have DF := Lib.hid ((R6.out.bel.trans (DE.out.below _)).trans (hbf.mono (by have := R6.out.bel.size; have := (DE.out.below 0).size; omega))); clear hbf))
        go_ret
        exact ⟨rfl, DF.out⟩

theorem rowsTurn_walk (A : Option Addr) (c : Nat) (L : List Rw) (hM : L.length ≤ 9223372036854775807) (x : Rw) (key : Int) (w : World) (hl : Lies w A L) :
    Calls Try.prog 3 #[.slice A L.length c, .agg #[.int .i64 x.k, .int .u64 (x.a : Nat), .int .u64 (x.b : Nat)], .int .i64 key] w fun e w' => e = .returned (.bool true) ∧ Below w.heap.size w w' := by
  rcases Nat.lt_or_ge 200 L.length with h | h
  · exact rowsTurn_long A c L h hM x key w
  · exact rowsTurn_short A c L h x key w hl
end Go.Proofs.Ytajkbeihopicnaa
