/- rows.Put, rows.Drop. · Package means' small functions: row, find, found, bare. · Package proof: goOn of an oper that is answered, over what Told tells. -/
import Derived.Test.YtiafjbhekfpkbaaGreatDoorJ14
import Derived.Test.YtiafjbhekfpkbaaGreatDoorJ16
import Derived.Test.YtiafjbhekfpkbaaGreatDoorJ0
import Derived.BigQuiet
import Derived.Test.YtiafjbhekfpkbaaGreatDoorJ7
import Derived.Test.YtiafjbhekfpkbaaGreatDoorJ13
namespace Go.Proofs.YtiafjbhekfpkbaaGreatDoor
set_option linter.unusedSimpArgs false
set_option linter.unusedVariables false
open Go.ChangeShapes Go.WideShapes Go.ChangeAt Go.RowKit Go.Shelf

/-- Rows, a slice: what is handed back. -/
def Told (w : World) (v : Value) (L : List Rw) : Prop := ∃ A c, v = .slice A L.length c ∧ Lies w A L
theorem Told.keep {w w' : World} {v : Value} {L : List Rw} (h : Told w v L) (hb : Below w.heap.size w w') : Told w' v L := by
  obtain ⟨A, c, e, h⟩ := h
  exact ⟨A, c, e, h.keep hb⟩
theorem told_of_own {w : World} {base n : Nat} {v : Value} {e : TypeId} {L : List Rw} (h : w.ownsRow base e 3 v n (flat L)) : Told w v L := by
  have hn : n = L.length := by have := h.1; rw [flat_length] at this; omega
  obtain ⟨A, c, rfl, _, _, hl⟩ := lies_of_own h
  exact ⟨A, c, by rw [hn], hl⟩
/-- A list of rows in a block that the call has made. -/
def ToldO (w : World) (B : Nat) (v : Value) (L : List Rw) : Prop := w.ownsRow B 58 3 v L.length (flat L)
theorem toldO_of {w : World} {base B n : Nat} {v : Value} {L : List Rw} (h : w.ownsRow base 58 3 v n (flat L)) (hb : B ≤ base) : ToldO w B v L := by
  have hn : n = L.length := by have h1 := h.1; rw [flat_length] at h1; omega
  subst hn
  refine ⟨h.1, ?_⟩
  rcases h.2 with h | ⟨g, cap, cur, h1, h2, h3⟩
  · exact .inl h
  · exact .inr ⟨g, cap, cur, h1, Nat.le_trans hb h2, h3⟩
theorem own_at {w w' : World} {base n : Nat} {v : Value} {e : TypeId} {L : List Rw} (h : w.ownsRow base e 3 v n (flat L)) (hb : Below w.heap.size w w') : w'.ownsRow base e 3 v n (flat L) := by
  refine ⟨h.1, ?_⟩
  rcases h.2 with h | ⟨g, cap, cur, h1, h2, h3, h4⟩
  · exact .inl h
  · exact .inr ⟨g, cap, cur, h1, h2, (hb.block g (Array.getElem?_eq_some_iff.1 h3).1).trans h3, h4⟩

set_option maxHeartbeats 2000000 in
theorem rPutO_any (A : Option Addr) (c : Nat) (L : List Rw) (hL : L.length ≤ 1000 * 1000 - 1) (x : Rw) (w : World) (hl : Lies w A L) :
    Calls Tryz.prog 88 #[.slice A L.length c, .agg #[.int .i64 x.k, .int .u64 (x.a : Nat), .int .u64 (x.b : Nat)]] w fun e w' => ∃ v, e = .returned (.tuple #[v, .bool (!isAt L x.k)]) ∧ ToldO w' w.heap.size v (putL L x) ∧ Below w.heap.size w w' := by
  have hb3 : Box3 (w.alloc (.cells #[.int .i64 x.k, .int .u64 (x.a : Nat), .int .u64 (x.b : Nat)] 58)) w.heap.size x := Box3.new w x
  have hb1 : Below w.heap.size w (w.alloc (.cells #[.int .i64 x.k, .int .u64 (x.a : Nat), .int .u64 (x.b : Nat)] 58)) := (Below.refl _ w).alloc (Nat.le_refl _) _
  have c1 := rClone_any A c L (by omega) _ (hl.keep hb1)
  have c2 := fun A' c' w' h => rowAt_any A' c' L (by omega) x.k w' h
  have c3 := fun base v w' (hown : w'.ownsRow base 58 3 v L.length (flat L)) hb0 vb hx hne => rInsert_any base v L L.length (findN L x.k) (by omega) (findN_le L x.k) x vb w' hown hb0 hx hne
  have hsz : (w.alloc (.cells #[.int .i64 x.k, .int .u64 (x.a : Nat), .int .u64 (x.b : Nat)] 58)).heap.size = w.heap.size + 1 := by simp
  have hput : putL L x = bif isAt L x.k then L else L.take (findN L x.k) ++ x :: L.drop (findN L x.k) := rfl
  have H := Lib.hid (And.intro hb3 (And.intro hb1 (And.intro hsz hput))); clear hb3 hb1 hsz hl hput
  have C1 := Lib.hid c1; have C2 := Lib.hid (fun A' c' w' h => c2 A' c' w' h); have C3 := Lib.hid (fun base v w' hown hb0 vb hx hne => c3 base v w' hown hb0 vb hx hne); clear c1 c2 c3
  generalize hm : L.length = m at *
  have HM := Lib.hid hm; clear hm
  generalize isAt L x.k = ia at *
  generalize findN L x.k = fn at *
  go_enter Tryz.func88, Tryz.ntmps88
  go_wp2_with (first
    | (go_at_call 114; refine C1.out.mono ?_; rintro e w1 ⟨v, rfl, hown, hb⟩; obtain ⟨A', c', rfl, _, _, hl1⟩ := lies_of_own hown
       have HO := Lib.hid hown; clear hown
       have hb' : Below w.heap.size w w1 := H.out.2.1.trans (hb.mono (by rw [H.out.2.2.1]; omega))
       have B3 : Box3 w1 w.heap.size x := (hb.block w.heap.size (by rw [H.out.2.2.1]; omega)).trans H.out.1
       have k0 := B3.cell0
       have R1 := Lib.hid (And.intro hb' (And.intro B3 hb)); clear hb' B3 hb)
    | (go_at_call 115; refine (C2.out _ _ _ hl1).mono ?_; rintro e w2 ⟨rfl, hb2⟩
       have B4 : Box3 w2 w.heap.size x := (hb2.block w.heap.size R1.out.2.1.lt).trans R1.out.2.1
       have q0 := B4.cell0
       have q1 := B4.cell1
       have q2 := B4.cell2
       have HO2 := Lib.hid (own_at HO.out hb2)
       have R2 := Lib.hid (And.intro (R1.out.1.trans (hb2.mono (by have := R1.out.1.size; omega))) (And.intro B4 hb2)); clear B4 hb2 k0)
    | (go_at_call 116
       refine (C3.out _ _ _ (own_at HO2.out ((Below.refl _ _).alloc (Nat.le_refl _) _)) (by rw [H.out.2.2.1]; have := R2.out.2.1.lt; simp; omega) _ ⟨_, heap_alloc_new w2 _⟩ (fun e => by have := (HO2.out.lt _ e).2; omega)).mono ?_
       rintro e w3 ⟨v', rfl, hown3, hb3⟩))
  · subst ia
    go_ret2
    exact ⟨_, rfl, by rw [H.out.2.2.2]; exact toldO_of HO2.out (by rw [H.out.2.2.1]; omega), R2.out.1⟩
  · obtain rfl : ia = false := by assumption
    go_ret2
    refine ⟨_, rfl, by rw [H.out.2.2.2]; exact toldO_of hown3 (by rw [H.out.2.2.1]; omega), ?_⟩
    have h0 := R2.out.1.size
    exact (R2.out.1.alloc h0 _).trans (hb3.mono (by rw [H.out.2.2.1]; omega))

theorem rPut_any (A : Option Addr) (c : Nat) (L : List Rw) (hL : L.length ≤ 1000 * 1000 - 1) (x : Rw) (w : World) (hl : Lies w A L) :
    Calls Tryz.prog 88 #[.slice A L.length c, .agg #[.int .i64 x.k, .int .u64 (x.a : Nat), .int .u64 (x.b : Nat)]] w fun e w' => ∃ v, e = .returned (.tuple #[v, .bool (!isAt L x.k)]) ∧ Told w' v (putL L x) ∧ Below w.heap.size w w' :=
  (rPutO_any A c L hL x w hl).mono fun _ _ ⟨v, h1, h2, h3⟩ => ⟨v, h1, told_of_own h2, h3⟩

theorem Box3.only {F : Nat → Prop} {W W' : World} {B : Nat} {x : Rw} (h : Box3 W B x) (ho : Only F W W') (hn : ¬ F B) : Box3 W' B x := (ho.2 B h.lt hn).trans h
theorem Box3.drew {W : World} {B : Nat} {x : Rw} (h : Box3 W B x) : Box3 W.drew B x := h
theorem Box3.frozen {W : World} {B : Nat} {x : Rw} (h : Box3 W B x) (i : Nat) : W.frozen? ⟨B, i, none⟩ = false := by simp [World.frozen?, show W.heap[B]? = _ from h]
theorem Box3.other {W : World} {B B' : Nat} {x : Rw} (h : Box3 W B x) (hne : B ≠ B') (k i j : Nat) (u v t : Value) : Box3 (((W.setCell ⟨B', k, none⟩ u).setCell ⟨B', i, none⟩ v).setCell ⟨B', j, none⟩ t) B x :=
  (Below.heap_setCell _ ⟨B', j, none⟩ t B hne).trans ((Below.heap_setCell _ ⟨B', i, none⟩ v B hne).trans ((Below.heap_setCell _ ⟨B', k, none⟩ u B hne).trans h))
theorem Box3.stored {W : World} {B : Nat} {y : Rw} (h : Box3 W B y) (x : Rw) : Box3 (((W.setCell ⟨B, 0, none⟩ (.int .i64 x.k)).setCell ⟨B, 1, none⟩ (.int .u64 (x.a : Nat))).setCell ⟨B, 2, none⟩ (.int .u64 (x.b : Nat))) B x := by
  unfold Box3 at h ⊢
  simp [World.setCell, Array.getElem?_modify, h]
theorem Box3.alloc {W : World} {B : Nat} {x : Rw} (h : Box3 W B x) (o : Obj) : Box3 (W.alloc o) B x := (Below.heap_alloc W o B h.lt).trans h
theorem Box3.results {W : World} {B : Nat} {x : Rw} (h : Box3 W B x) : W.cell? ⟨B, 0, none⟩ = some (.int .i64 x.k) ∧ W.cell? ⟨B, 1, none⟩ = some (.int .u64 (x.a : Nat)) ∧ W.cell? ⟨B, 2, none⟩ = some (.int .u64 (x.b : Nat)) := ⟨h.cell0, h.cell1, h.cell2⟩

theorem own_only {F : Nat → Prop} {w w' : World} {base n : Nat} {v : Value} {e : TypeId} {L : List Rw} (h : w.ownsRow base e 3 v n (flat L)) (ho : Only F w w') (hF : ∀ i, F i → i < base) : w'.ownsRow base e 3 v n (flat L) := by
  refine ⟨h.1, ?_⟩
  rcases h.2 with h | ⟨g, cap, cur, h1, h2, h3, h4⟩
  · exact .inl h
  · exact .inr ⟨g, cap, cur, h1, h2, (ho.2 g (Array.getElem?_eq_some_iff.1 h3).1 (fun hf => absurd (hF g hf) (by omega))).trans h3, h4⟩
theorem only_set3 {F : Nat → Prop} {w0 W : World} {B : Nat} (h : Only F w0 W) (hB : F B) (k i j : Nat) (u v t : Value) : Only F w0 (((W.setCell ⟨B, k, none⟩ u).setCell ⟨B, i, none⟩ v).setCell ⟨B, j, none⟩ t) :=
  Only.setCell (Only.setCell (Only.setCell h (p := ⟨B, k, none⟩) hB u) (p := ⟨B, i, none⟩) hB v) (p := ⟨B, j, none⟩) hB t

theorem dropBelow {w W3 W : World} {h0 b : Nat} (h : Below h0 w W3) (hh : w.heap.size = h0) (hb : h0 + 1 ≤ b) (ho : Only (fun i => i = h0 ∨ i = b) W3 W) : Below w.heap.size w W := by
  subst hh
  exact Below.only h ho h.size (by omega)
theorem drop_a {W3 W4 : World} {h0 b n c : Nat} {off : Nat} {k i j : Nat} {u v t : Value} (h1 : Only (fun i => i = h0) W3 W3.drew) (h2 : Only (fun i => (Value.slice (some ⟨b, off, none⟩) n c).ownBlock = some i) W3.drew W4) :
    Only (fun i => i = h0 ∨ i = b) W3 (((W4.setCell ⟨h0, k, none⟩ u).setCell ⟨h0, i, none⟩ v).setCell ⟨h0, j, none⟩ t) :=
  only_set3 ((h1.mono fun _ _ h => .inl h).trans (h2.mono fun _ _ h => .inr (Option.some.inj h).symm)) (.inl rfl) k i j u v t
theorem drop_c {W3 X W4 : World} {h0 b n c : Nat} {off : Nat} (h1 : Only (fun i => i = h0) W3 X) (h2 : Only (fun i => (Value.slice (some ⟨b, off, none⟩) n c).ownBlock = some i) X W4) :
    Only (fun i => i = h0 ∨ i = b) W3 W4 := (h1.mono fun _ _ h => .inl h).trans (h2.mono fun _ _ h => .inr (Option.some.inj h).symm)


set_option maxHeartbeats 2000000 in
theorem rDropO_no (A : Option Addr) (c : Nat) (L : List Rw) (hL : L.length ≤ 1000 * 1000 - 1) (key : Int) (w : World) (hl : Lies w A L) (hno : isAt L key = false) :
    Calls Tryz.prog 90 #[.slice A L.length c, .int .i64 key] w fun e w' => ∃ v, e = .returned (.tuple #[v, .agg #[.int .i64 0, .int .u64 0, .int .u64 0], .bool false]) ∧ ToldO w' w.heap.size v L ∧ Below w.heap.size w w' := by
  have hb1 : Below w.heap.size w (w.alloc (.cells #[.int .i64 0, .int .u64 0, .int .u64 0] 58)) := (Below.refl _ w).alloc (Nat.le_refl _) _
  have c1 := rClone_any A c L (by omega) _ (hl.keep hb1)
  have c2 := fun A' c' w' h => rowAt_any A' c' L (by omega) key w' h
  rw [hno] at c2
  have hb3 : Box3 (w.alloc (.cells #[.int .i64 0, .int .u64 0, .int .u64 0] 58)) w.heap.size ⟨0, 0, 0⟩ := Box3.new w ⟨0, 0, 0⟩
  have hsz : (w.alloc (.cells #[.int .i64 0, .int .u64 0, .int .u64 0] 58)).heap.size = w.heap.size + 1 := by simp
  have H := Lib.hid (And.intro hb3 (And.intro hb1 hsz)); clear hb3 hb1 hsz hl hno
  have C1 := Lib.hid c1; have C2 := Lib.hid (fun A' c' w' h => c2 A' c' w' h); clear c1 c2
  generalize hm : L.length = m at *
  have HM := Lib.hid hm; clear hm
  generalize findN L key = fn at *
  go_enter Tryz.func90, Tryz.ntmps90
  go_wp2_with (first
    | (go_at_call 114; refine C1.out.mono ?_; rintro e w1 ⟨v, rfl, hown, hb⟩; obtain ⟨A', c', rfl, _, _, hl1⟩ := lies_of_own hown
       rw [H.out.2.2] at hown
       have HO := Lib.hid hown; clear hown
       have hb' : Below w.heap.size w w1 := H.out.2.1.trans (hb.mono (by rw [H.out.2.2]; omega))
       have B3 : Box3 w1 w.heap.size ⟨0, 0, 0⟩ := (hb.block w.heap.size (by rw [H.out.2.2]; omega)).trans H.out.1
       have R1 := Lib.hid (And.intro hb' B3); clear hb' B3 hb)
    | (go_at_call 115; refine (C2.out _ _ _ hl1).mono ?_; rintro e w2 ⟨rfl, hb2⟩
       have B4 : Box3 w2 w.heap.size ⟨0, 0, 0⟩ := (hb2.block w.heap.size R1.out.2.lt).trans R1.out.2
       have q0 := B4.cell0
       have q1 := B4.cell1
       have q2 := B4.cell2
       have f0 := B4.frozen 0
       have f1 := B4.frozen 1
       have f2 := B4.frozen 2
       have HO2 := Lib.hid (own_at HO.out hb2)
       have hl2 := Lib.hid (hl1.keep hb2)
       have R2 := Lib.hid (And.intro (R1.out.1.trans (hb2.mono (by have := R1.out.1.size; omega))) B4); clear B4 hb2)
    )
  have B5 := Box3.stored R2.out.2 ⟨0, 0, 0⟩
  have e0 := B5.cell0
  have e1 := B5.cell1
  have e2 := B5.cell2
  refine bodyPost_ret (v := .tuple #[.slice A' m c', .agg #[.int .i64 0, .int .u64 0, .int .u64 0], .bool false]) ?_ rfl ⟨_, rfl, ?_, ?_⟩
  · simp only [Int.natCast_zero] at e0 e1 e2
    simp [results, Tryz.results90, go_sem, e0, e1, e2]
  · exact toldO_of (own_only HO2.out (only_set3 (F := fun i => i = w.heap.size) (Only.refl _ w2) rfl 0 1 2 _ _ _) (by omega)) (by omega)
  · exact Below.only R2.out.1 (only_set3 (F := fun i => i = w.heap.size) (Only.refl _ w2) rfl 0 1 2 _ _ _) R2.out.1.size (by omega)

set_option maxHeartbeats 2000000 in
theorem rDropO_yes (A : Option Addr) (c : Nat) (L : List Rw) (hL : L.length ≤ 1000 * 1000 - 1) (key : Int) (w : World) (hl : Lies w A L) (hno : isAt L key = true) :
    Calls Tryz.prog 90 #[.slice A L.length c, .int .i64 key] w fun e w' => ∃ v, e = .returned (.tuple #[v, .agg #[.int .i64 (nth L (findN L key)).k, .int .u64 ((nth L (findN L key)).a : Nat), .int .u64 ((nth L (findN L key)).b : Nat)], .bool true]) ∧ ToldO w' w.heap.size v (L.take (findN L key) ++ L.drop (findN L key + 1)) ∧ Below w.heap.size w w' := by
  have hb1 : Below w.heap.size w (w.alloc (.cells #[.int .i64 0, .int .u64 0, .int .u64 0] 58)) := (Below.refl _ w).alloc (Nat.le_refl _) _
  have c1 := rClone_any A c L (by omega) _ (hl.keep hb1)
  have c2 := fun A' c' w' h => rowAt_any A' c' L (by omega) key w' h
  rw [hno] at c2
  have hb3 : Box3 (w.alloc (.cells #[.int .i64 0, .int .u64 0, .int .u64 0] 58)) w.heap.size ⟨0, 0, 0⟩ := Box3.new w ⟨0, 0, 0⟩
  have hsz : (w.alloc (.cells #[.int .i64 0, .int .u64 0, .int .u64 0] 58)).heap.size = w.heap.size + 1 := by simp
  have hlt : findN L key < L.length := (isAt_lt hno).1
  obtain ⟨m, hm⟩ : ∃ m, L.length = m + 1 := ⟨L.length - 1, by omega⟩
  have c3 := fun v w' (hown : w'.ownsRow (w.heap.size + 1) 58 3 v (m + 1) (flat L)) hb0 => rDelete_any (w.heap.size + 1) v L m (findN L key) (by omega) (by omega) w' hown hb0
  have H := Lib.hid (And.intro hb3 (And.intro hb1 hsz)); clear hb3 hb1 hsz hl hno
  have C1 := Lib.hid c1; have C2 := Lib.hid (fun A' c' w' h => c2 A' c' w' h); have C3 := Lib.hid (fun v w' hown hb0 => c3 v w' hown hb0); clear c1 c2 c3
  rw [hm] at hL C1 C2 ⊢
  generalize hfn : findN L key = fn at *
  have HM := Lib.hid (And.intro hm hfn); clear hm hfn
  generalize hx : nth L fn = x at *
  have HX := Lib.hid hx; clear hx
  go_enter Tryz.func90, Tryz.ntmps90
  go_upto_region 5 with (first
    | (go_at_call 114; refine C1.out.mono ?_; rintro e w1 ⟨v, rfl, hown, hb⟩; obtain ⟨A', c', rfl, _, _, hl1⟩ := lies_of_own hown
       rw [H.out.2.2] at hown
       have HO := Lib.hid hown; clear hown
       have hb' : Below w.heap.size w w1 := H.out.2.1.trans (hb.mono (by rw [H.out.2.2]; omega))
       have B3 : Box3 w1 w.heap.size ⟨0, 0, 0⟩ := (hb.block w.heap.size (by rw [H.out.2.2]; omega)).trans H.out.1
       have R1 := Lib.hid (And.intro hb' B3); clear hb' B3 hb)
    | (go_at_call 115; refine (C2.out _ _ _ hl1).mono ?_; rintro e w2 ⟨rfl, hb2⟩
       have B4 : Box3 w2 w.heap.size ⟨0, 0, 0⟩ := (hb2.block w.heap.size R1.out.2.lt).trans R1.out.2
       have q0 := B4.cell0
       have q1 := B4.cell1
       have q2 := B4.cell2
       have f0 := B4.frozen 0
       have f1 := B4.frozen 1
       have f2 := B4.frozen 2
       have HO2 := Lib.hid (own_at HO.out hb2)
       have hl2 := Lib.hid (hl1.keep hb2)
       have R2 := Lib.hid (And.intro (R1.out.1.trans (hb2.mono (by have := R1.out.1.size; omega))) B4); clear B4 hb2)
    )
  have hlt' : fn < m + 1 := by rw [← HM.out.1]; exact hlt
  obtain ⟨b, off, rfl, hb, hx⟩ := hl2.out.at_ (by rw [HM.out.1]; omega)
  obtain ⟨p0, p1, p2⟩ := hx fn hlt
  rw [HX.out] at p0 p1 p2
  clear hx
  rcases x with ⟨xk, xa, xb⟩
  go_upto_region 6 with fail
  have B10 : Box3 (w2.alloc (.cells #[.int .i64 xk, .int .u64 (xa : Nat), .int .u64 (xb : Nat)] 58)) w2.heap.size ⟨xk, xa, xb⟩ := Box3.new w2 ⟨xk, xa, xb⟩
  have B5 := R2.out.2.alloc (.cells #[.int .i64 xk, .int .u64 (xa : Nat), .int .u64 (xb : Nat)] 58)
  have hO3 := own_at HO2.out ((Below.refl _ w2).alloc (Nat.le_refl _) (.cells #[.int .i64 xk, .int .u64 (xa : Nat), .int .u64 (xb : Nat)] 58))
  have hB3 := R2.out.1.alloc R2.out.1.size (.cells #[.int .i64 xk, .int .u64 (xa : Nat), .int .u64 (xb : Nat)] 58)
  have hb1 : w.heap.size + 1 ≤ b := (HO2.out.lt b rfl).1
  have hs2 : w.heap.size < w2.heap.size := R2.out.2.lt
  obtain ⟨W3, hW3⟩ : ∃ W3, w2.alloc (.cells #[.int .i64 xk, .int .u64 (xa : Nat), .int .u64 (xb : Nat)] 58) = W3 := ⟨_, rfl⟩
  rw [hW3] at B10 B5 hO3 hB3 ⊢
  clear hW3 q0 q1 q2 f0 f1 f2 p0 p1 p2 hlt
  generalize w2.heap.size = h2 at *
  generalize hh : w.heap.size = h0 at *
  have n1 : b ≠ h2 := by omega
  have n2 : b ≠ h0 := by omega
  have n3 : h2 ≠ h0 := by omega
  have hO4 : ∀ W, Only (fun i => i = h0) W3 W → W.ownsRow (h0 + 1) 58 3 (.slice (some ⟨b, off, none⟩) (m + 1) c') (m + 1) (flat L) := fun W hW => own_only hO3 hW (by omega)
  have hz4 : ∀ W, Only (fun i => i = h0) W3 W → h0 + 1 ≤ W.heap.size := fun W hW => by have := hW.size; have := B5.lt; omega
  have D1 : Only (fun i => i = h0) W3 W3.drew := (Only.refl _ W3).drew
  have D2 := only_set3 D1 (B := h0) rfl 0 1 2 (.int .i64 xk) (.int .u64 (xa : Nat)) (.int .u64 (xb : Nat))
  have E1 : Box3 W3.drew h2 ⟨xk, xa, xb⟩ := B10
  have E2 : Box3 W3.drew h0 ⟨0, 0, 0⟩ := B5
  have E3 := E2.stored ⟨xk, xa, xb⟩
  have a0 := E1.cell0
  have a1 := E1.cell1
  have a2 := E1.cell2
  have b0 := E2.cell0
  have b1 := E2.cell1
  have b2 := E2.cell2
  have g0 := E2.frozen 0
  have g1 := E2.frozen 1
  have g2 := E2.frozen 2
  have HE := Lib.hid (And.intro D1 (And.intro D2 (And.intro E1 (And.intro E2 E3))))
  have HF := Lib.hid (And.intro (fun W hW => hO4 W hW) (fun W hW => hz4 W hW)); have HB3 := Lib.hid (And.intro hB3 (And.intro hh (And.intro n1 (And.intro n2 n3))))
  clear B10 B5 hO3 hB3 hO4 hz4 D1 D2 E1 E2 E3 hh n1 n2 n3
  have hw1 : IntKind.i64.wrap ((fn : Int) + 1) = (fn : Int) + 1 := by rw [IntKind.wrap_i64]; omega
  go_region_with (first
    | (go_at_call 117
       with_reducible refine (C3.out _ W3.drew (HF.out.1 _ HE.out.1) (HF.out.2 _ HE.out.1)).mono ?_
       rintro e w4 ⟨v', rfl, hown4, ho4⟩
       have E4 : Box3 w4 h2 ⟨xk, xa, xb⟩ := HE.out.2.2.1.only ho4 (fun e => HB3.out.2.2.1 (Option.some.inj e))
       have E5 : Box3 w4 h0 ⟨0, 0, 0⟩ := HE.out.2.2.2.1.only ho4 (fun e => HB3.out.2.2.2.1 (Option.some.inj e))
       have k0 := E4.cell0
       have k1 := E4.cell1
       have k2 := E4.cell2
       have l0 := E5.cell0
       have l1 := E5.cell1
       have l2 := E5.cell2
       have m0 := E5.frozen 0
       have m1 := E5.frozen 1
       have m2 := E5.frozen 2
       have HE4 := Lib.hid (And.intro E5 (And.intro hown4 ho4)); clear E4 E5 hown4 ho4)
    | (go_at_call 117
       with_reducible refine (C3.out _ _ (HF.out.1 _ HE.out.2.1) (HF.out.2 _ HE.out.2.1)).mono ?_
       rintro e w4 ⟨v', rfl, hown4, ho4⟩
       have HE4 := Lib.hid (And.intro (HE.out.2.2.2.2.only ho4 (fun e => HB3.out.2.2.2.1 (Option.some.inj e))) (And.intro hown4 ho4)); clear hown4 ho4))
  all_goals go_wp2_with fail
  all_goals
    have B6 := HE4.out.1
    first
      | (have B7 := B6.stored ⟨xk, xa, xb⟩
         have e0 := B7.cell0
         have e1 := B7.cell1
         have e2 := B7.cell2
         refine bodyPost_ret (v := .tuple #[v', .agg #[.int .i64 xk, .int .u64 (xa : Nat), .int .u64 (xb : Nat)], .bool true]) ?_ rfl ⟨_, rfl, ?_, ?_⟩
         · simp [results, Tryz.results90, go_sem, e0, e1, e2]
         · exact toldO_of (own_only HE4.out.2.1 (only_set3 (F := fun i => i = h0) (Only.refl _ w4) rfl 0 1 2 _ _ _) (by omega)) (by have := HB3.out.2.1; omega)
         · exact dropBelow HB3.out.1 (HB3.out.2.1) hb1 (drop_a HE.out.1 HE4.out.2.2))
      | (have e0 := B6.cell0
         have e1 := B6.cell1
         have e2 := B6.cell2
         refine bodyPost_ret (v := .tuple #[v', .agg #[.int .i64 xk, .int .u64 (xa : Nat), .int .u64 (xb : Nat)], .bool true]) ?_ rfl ⟨_, rfl, ?_, ?_⟩
         · simp [results, Tryz.results90, go_sem, e0, e1, e2]
         · exact toldO_of HE4.out.2.1 (by have := HB3.out.2.1; omega)
         · exact dropBelow HB3.out.1 (HB3.out.2.1) hb1 (drop_c HE.out.2.1 HE4.out.2.2))

/-- Drop: the list without the first row of a key, that row, and whether it was there. -/
theorem rDropO_any (A : Option Addr) (c : Nat) (L : List Rw) (hL : L.length ≤ 1000 * 1000 - 1) (key : Int) (w : World) (hl : Lies w A L) :
    Calls Tryz.prog 90 #[.slice A L.length c, .int .i64 key] w fun e w' => ∃ v, e = .returned (.tuple #[v, .agg #[.int .i64 (dropX L key).k, .int .u64 ((dropX L key).a : Nat), .int .u64 ((dropX L key).b : Nat)], .bool (isAt L key)]) ∧ ToldO w' w.heap.size v (dropL L key) ∧ Below w.heap.size w w' := by
  unfold dropX dropL
  cases h : isAt L key with
  | false => exact rDropO_no A c L hL key w hl h
  | true => exact rDropO_yes A c L hL key w hl h
theorem rDrop_any (A : Option Addr) (c : Nat) (L : List Rw) (hL : L.length ≤ 1000 * 1000 - 1) (key : Int) (w : World) (hl : Lies w A L) :
    Calls Tryz.prog 90 #[.slice A L.length c, .int .i64 key] w fun e w' => ∃ v, e = .returned (.tuple #[v, .agg #[.int .i64 (dropX L key).k, .int .u64 ((dropX L key).a : Nat), .int .u64 ((dropX L key).b : Nat)], .bool (isAt L key)]) ∧ Told w' v (dropL L key) ∧ Below w.heap.size w w' :=
  (rDropO_any A c L hL key w hl).mono fun _ _ ⟨v, h1, h2, h3⟩ => ⟨v, h1, told_of_own h2, h3⟩
end Go.Proofs.YtiafjbhekfpkbaaGreatDoor
namespace Go.Proofs.YtiafjbhekfpkbaaGreatDoor
set_option linter.unusedSimpArgs false
set_option linter.unusedVariables false
open Go.ChangeShapes Go.WideShapes Go.ChangeAt Go.RowKit

/-- A slice's block is that of another one, or made since. -/
def Stem (u : Value) (B : Nat) (v : Value) : Prop := ∀ k, v.ownBlock = some k → u.ownBlock = some k ∨ B ≤ k
theorem Stem.refl (u : Value) (B : Nat) : Stem u B u := fun _ h => .inl h
theorem Stem.mono {u v : Value} {B B' : Nat} (h : Stem u B v) (hb : B' ≤ B) : Stem u B' v := fun k hk => (h k hk).imp id (Nat.le_trans hb)
theorem mRow_any (op l key : Int) (pa pb hd : Nat) (r : Int) (w : World) :
    Calls Tryz.prog 89 #[.agg #[.int .i64 op, .int .i64 l, .int .i64 key, .int .u64 (pa : Nat), .int .u64 (pb : Nat), .int .u64 (hd : Nat), .int .i64 r]] w fun e w' => e = .returned (.agg #[.int .i64 key, .int .u64 (pa : Nat), .int .u64 (pb : Nat)]) ∧ Below w.heap.size w w' := by
  have hB : ∀ a b, Below w.heap.size w ((w.alloc a).alloc b) := fun a b => ((Below.refl _ w).alloc (Nat.le_refl _) _).alloc (by simp) _
  have HB := Lib.hid hB; clear hB
  generalize ((pa : Nat) : Int) = xa at *
  generalize ((pb : Nat) : Int) = xb at *
  generalize ((hd : Nat) : Int) = xh at *
  go_enter Tryz.func89, Tryz.ntmps89
  go_wp2_with fail
  refine bodyPost_ret (v := .agg #[.int .i64 key, .int .u64 xa, .int .u64 xb]) (by simp [results, Tryz.results89, go_sem]) rfl ⟨rfl, HB.out _ _⟩

/-- The answer that tells a pair, if it is there, else a code. -/
def ansV (e : Int) (a b h : Nat) (n k : Int) : Value := .agg #[.int .i64 e, .int .u64 (a : Nat), .int .u64 (b : Nat), .int .u64 (h : Nat), .int .i64 n, .int .i64 k]
theorem mFound_any (a b : Nat) (there : Bool) (code : Int) (w : World) :
    Calls Tryz.prog 92 #[.agg #[.int .u64 (a : Nat), .int .u64 (b : Nat)], .bool there, .int .i64 code] w fun e w' => e = .returned (bif there then ansV 0 a b 0 0 0 else ansV code 0 0 0 0 0) ∧ Below w.heap.size w w' := by
  have hB : ∀ a b, Below w.heap.size w ((w.alloc a).alloc b) := fun a b => ((Below.refl _ w).alloc (Nat.le_refl _) _).alloc (by simp) _
  have HB := Lib.hid hB; clear hB
  have H1 := Lib.hid (show ansV 0 a b 0 0 0 = .agg #[.int .i64 0, .int .u64 (a : Nat), .int .u64 (b : Nat), .int .u64 0, .int .i64 0, .int .i64 0] from rfl)
  have H2 := Lib.hid (show ansV code 0 0 0 0 0 = .agg #[.int .i64 code, .int .u64 0, .int .u64 0, .int .u64 0, .int .i64 0, .int .i64 0] from rfl)
  cases there
  · go_enter Tryz.func92, Tryz.ntmps92
    go_wp2_with fail
    refine bodyPost_ret (v := .agg #[.int .i64 code, .int .u64 0, .int .u64 0, .int .u64 0, .int .i64 0, .int .i64 0]) (by simp [results, Tryz.results92, go_sem]) rfl ⟨by rw [← H2.out]; rfl, HB.out _ _⟩
  · go_enter Tryz.func92, Tryz.ntmps92
    go_wp2_with fail
    refine bodyPost_ret (v := .agg #[.int .i64 0, .int .u64 (a : Nat), .int .u64 (b : Nat), .int .u64 0, .int .i64 0, .int .i64 0]) (by simp [results, Tryz.results92, go_sem]) rfl ⟨by rw [← H1.out]; rfl, HB.out _ _⟩

set_option maxRecDepth 100000 in
theorem mFind_any (A : Option Addr) (c : Nat) (L : List Rw) (hL : L.length ≤ 1000000) (key : Int) (w : World) (hl : Lies w A L) :
    Calls Tryz.prog 91 #[.slice A L.length c, .int .i64 key] w fun e w' => e = .returned (.tuple #[.agg #[.int .u64 ((dropX L key).a : Nat), .int .u64 ((dropX L key).b : Nat)], .bool (isAt L key)]) ∧ Below w.heap.size w w' := by
  have HA := Lib.hid hl
  have hC := fun W (hb : Below w.heap.size w W) => rowAt_any A c L hL key W (hl.keep hb)
  have C := Lib.hid hC
  clear hC
  have HX := Lib.hid (show dropX L key = bif isAt L key then nth L (findN L key) else ⟨0, 0, 0⟩ from rfl)
  have HI := Lib.hid (show isAt L key = true → findN L key < L.length from fun h => by unfold isAt at h; simp only [Bool.and_eq_true, decide_eq_true_eq] at h; exact h.1)
  have hB0 : Below w.heap.size w (w.alloc (.cells #[.int .u64 0, .int .u64 0] 31)) := (Below.refl _ w).alloc (Nat.le_refl _) _
  have HB0 := Lib.hid hB0
  clear hl hB0
  cases hi : isAt L key
  · rw [hi] at HX C
    rw [show dropX L key = ⟨0, 0, 0⟩ from HX.out]
    have C1 := Lib.hid (C.out _ HB0.out)
    clear C HX HI
    generalize findN L key = fn at *
    generalize L.length = n at *
    go_enter Tryz.func91, Tryz.ntmps91
    go_upto_region 2 with (go_at_call 115; refine C1.out.mono ?_; rintro e w1 ⟨rfl, hb⟩; have hz := (Cells.new w #[.int .u64 0, .int .u64 0] 31).keep hb; have z0 : w1.cell? ⟨w.heap.size, 0, none⟩ = some (.int .u64 0) := hz.cell 0; have z1 : w1.cell? ⟨w.heap.size, 1, none⟩ = some (.int .u64 0) := hz.cell 1; have f0 := hz.frozen 0; have f1 := hz.frozen 1; have HB1 := Lib.hid hb; have HZ := Lib.hid hz; clear hb hz)
    have HBB := Lib.hid (HB0.out.trans (HB1.out.mono (by simp)))
    have hres := (HZ.out.set_ 0 (.int .u64 0)).set_ 1 (.int .u64 0)
    have r0 := hres.cell 0
    have r1 := hres.cell 1
    go_wp2_with fail
    refine bodyPost_ret (v := .tuple #[.agg #[.int .u64 0, .int .u64 0], .bool false]) (by simp [results, Tryz.results91, go_sem, r0, r1]) rfl ⟨rfl, ?_⟩
    exact (HBB.out.setCell (p := ⟨w.heap.size, 0, none⟩) (Nat.le_refl _) _).setCell (p := ⟨w.heap.size, 1, none⟩) (Nat.le_refl _) _
  · rw [hi] at HX C
    have hlt := HI.out hi
    rw [show dropX L key = nth L (findN L key) from HX.out]
    have C1 := Lib.hid (C.out _ HB0.out)
    have HLT := Lib.hid hlt
    clear C HX HI
    generalize hfn : findN L key = fn at *
    generalize hx : nth L fn = x at *
    have HN := Lib.hid (And.intro hfn hx)
    clear hfn hx
    go_enter Tryz.func91, Tryz.ntmps91
    go_upto_region 2 with (go_at_call 115; refine C1.out.mono ?_; rintro e w1 ⟨rfl, hb⟩; have hz := (Cells.new w #[.int .u64 0, .int .u64 0] 31).keep hb; have z0 : w1.cell? ⟨w.heap.size, 0, none⟩ = some (.int .u64 0) := hz.cell 0; have z1 : w1.cell? ⟨w.heap.size, 1, none⟩ = some (.int .u64 0) := hz.cell 1; have f0 := hz.frozen 0; have f1 := hz.frozen 1; have HB1 := Lib.hid hb; have HZ := Lib.hid hz; clear hb hz)
    have HBB := Lib.hid (HB0.out.trans (HB1.out.mono (by simp)))
    obtain ⟨b, off, rfl, hbl, hc⟩ := (HA.out.keep HBB.out).at_ (by omega)
    obtain ⟨p0, p1, p2⟩ := hc fn hlt
    rw [HN.out.2] at p1 p2
    have hft : (fn : Int) < (L.length : Nat) := by omega
    have hres := (HZ.out.set_ 0 (.int .u64 (x.a : Nat))).set_ 1 (.int .u64 (x.b : Nat))
    have r0 := hres.cell 0
    have r1 := hres.cell 1
    clear hc p0
    go_wp2_with fail
    refine bodyPost_ret (v := .tuple #[.agg #[.int .u64 (x.a : Nat), .int .u64 (x.b : Nat)], .bool true]) (by simp [results, Tryz.results91, go_sem, r0, r1]) rfl ⟨rfl, ?_⟩
    exact (HBB.out.setCell (p := ⟨w.heap.size, 0, none⟩) (Nat.le_refl _) _).setCell (p := ⟨w.heap.size, 1, none⟩) (Nat.le_refl _) _
end Go.Proofs.YtiafjbhekfpkbaaGreatDoor
namespace Go.Proofs.YtiafjbhekfpkbaaGreatDoor
set_option linter.unusedSimpArgs false
set_option linter.unusedVariables false
open Go.ChangeShapes Go.WideShapes Go.ChangeAt Go.RowKit Go.Maps
set_option linter.unusedSimpArgs false
set_option linter.unusedVariables false

/-- A state's blocks are the other one's, or later than B. -/
def StemF (f : Nat → Value) (B : Nat) (F : Nat → Value) : Prop := ∀ i k, i < 63 → (F i).ownBlock = some k → (∃ j, j < 63 ∧ (f j).ownBlock = some k) ∨ B ≤ k
def AwayF (F : Nat → Value) (n : Nat) : Prop := ∀ i k, i < 63 → (F i).ownBlock = some k → k ≠ n
theorem StemF.refl (f : Nat → Value) (B : Nat) : StemF f B f := fun i k hi h => .inl ⟨i, hi, h⟩
theorem StemF.mono {f F : Nat → Value} {B B' : Nat} (h : StemF f B F) (hb : B' ≤ B) : StemF f B' F := fun i k hi hk => (h i k hi hk).imp id (Nat.le_trans hb)
theorem StemF.away {f F : Nat → Value} {B n : Nat} (h : StemF f B F) (hf : AwayF f n) (hn : n < B) : AwayF F n := fun i k hi hk e => by
  rcases h i k hi hk with ⟨j, hj, h1⟩ | h1
  · exact hf j k hj h1 e
  · omega
/-- goOn's three blocks: the state, the oper, the result. -/
structure GR (g : Nat) (f : Nat → Value) (x : Opr) (w W : World) : Prop where
  st : Row W g 74 63 f
  op : Cells W (g + 1) 38 (opF x)
  rs : ∃ Z, Row W (g + 1 + 1) 74 63 Z
  bel : Below g w W
theorem GR.keep {g : Nat} {f : Nat → Value} {x : Opr} {w W W' : World} (h : GR g f x w W) (hb : Below W.heap.size W W') : GR g f x w W' :=
  ⟨h.st.keep hb, h.op.keep hb, h.rs.elim fun Z hz => ⟨Z, hz.keep hb⟩, h.bel.trans (hb.mono (by have := h.st.lt; omega))⟩
theorem gr_new (f : Nat → Value) (x : Opr) (c : Array Value) (hc : c.size = 63) (w : World) : ∀ W, (((w.alloc (.cells (rowOf 63 f) 74)).alloc (.cells (opF x).toArray 38)).alloc (.cells c 74)) = W → GR w.heap.size f x w W := by
  rintro W rfl
  have h2 := Cells.new (w.alloc (.cells (rowOf 63 f) 74)) (opF x).toArray 38
  simp only [World.size_alloc] at h2
  refine ⟨((Row.new w _ _ _ _ rfl).alloc _).alloc _, h2.alloc _, row_zero _ _ _ _ hc (by simp), (((Below.refl _ w).alloc (Nat.le_refl _) _).alloc (by simp) _).alloc (by simp; omega) _⟩
theorem cells_range {w : World} {B : Nat} {t : TypeId} {cs ds : List Value} {o : Nat} (h : Cells w B t cs) (hd : ∀ j v, ds[j]? = some v → cs[o + j]? = some v) : w.rangeAt B o ds := fun j v hj => by rw [h.cell (o + j)]; exact hd j v hj
def clL (x : Cl) : List Value := [.int .i64 x.op, .int .i64 x.l, .int .i64 x.key, .int .u64 x.pa, .int .u64 x.pb, .int .u64 x.hd, .int .i64 x.r]
def anL (x : An) : List Value := [.int .i64 x.e, .int .u64 x.a, .int .u64 x.b, .int .u64 x.h, .int .i64 x.n, .int .i64 x.k]
theorem clL_in (x : Opr) : ∀ j v, (clL x.c)[j]? = some v → (opF x)[1 + j]? = some v := fun j v h => by
  match j with
  | 0 | 1 | 2 | 3 | 4 | 5 | 6 => exact h
  | k + 7 => simp [clL] at h
theorem anL_in (x : Opr) : ∀ j v, (anL x.a)[j]? = some v → (opF x)[8 + j]? = some v := fun j v h => by
  match j with
  | 0 | 1 | 2 | 3 | 4 | 5 => exact h
  | k + 6 => simp [anL] at h
set_option maxRecDepth 100000 in
set_option maxHeartbeats 4000000 in
theorem goOn_told (f : Nat → Value) (x : Opr) (hx : ansB x = true) (hf : ∀ i, i < 63 → (f i).oneCell' = true) (w : World) (hfb : ∀ i k, i < 63 → (f i).ownBlock = some k → k < w.heap.size) (Q : (Nat → Value) → Bool → World → Prop)
    (CT : ∀ W, Below w.heap.size w W → w.heap.size + 3 ≤ W.heap.size → Calls Tryz.prog 40 #[.agg (rowOf 63 f), .int .i64 x.th, .agg (clL x.c).toArray, .agg (anL x.a).toArray] W fun e w' => ∃ F b, e = .returned (.tuple #[.agg (rowOf 63 F), .bool b]) ∧ Q F b w' ∧ (∀ i, i < 63 → (F i).oneCell' = true) ∧ StemF f W.heap.size F ∧ Below W.heap.size W w')
    (hQ : ∀ F b W n cs, Q F b W → AwayF F n → Q F b (W.setRow n cs)) :
    Calls Tryz.prog 35 #[.agg (rowOf 63 f), .agg (opF x).toArray] w fun e w' => ∃ F b, e = .returned (.tuple #[.agg (rowOf 63 F), .bool b]) ∧ Q F b w' ∧ (∀ i, i < 63 → (F i).oneCell' = true) ∧ StemF f w.heap.size F ∧ Below w.heap.size w w' := by
  have HCT := Lib.hid CT
  have HQ := Lib.hid hQ
  have HF := Lib.hid hf
  have HFB := Lib.hid hfb
  have CA := Lib.hid (fun W => pAnswered_any x W)
  rw [hx] at CA
  clear CT hQ hf hx hfb
  go_enter Tryz.func35, Tryz.ntmps35
  go_upto_region 1 with fail
  generalize hW : World.alloc (World.alloc (World.alloc _ _) _) _ = W
  have hG := gr_new f x _ (by rfl) w W hW
  clear hW
  generalize hg : w.heap.size = g at *
  have HG := Lib.hid hg; clear hg
  have HR := Lib.hid hG
  have h1 := hG.op
  clear hG
  go_upto_region 2 with (first
    | (refine wpList_load_row rfl 38 _ rfl (g + 1) rfl 38 (opF x).toArray (0, 0) _ h1 Tryz.underlying38 rfl (by kernel_rfl) ?_)
    | (go_at_call 27; refine (CA.out _).mono ?_; rintro e w1 ⟨rfl, hb⟩; have HR1 := Lib.hid (HR.out.keep hb); clear hb))
  clear h1 HR
  have h1 := HR1.out.st
  have c0 : w1.cell? ⟨g + 1, 0, none⟩ = some (.int .i64 x.th) := HR1.out.op.cell 0
  have r1 := Lib.hid (cells_range HR1.out.op (clL_in x))
  have r2 := Lib.hid (cells_range HR1.out.op (anL_in x))
  have HC1 := Lib.hid (HCT.out w1 HR1.out.bel (by have h := HR1.out.rs.elim fun Z hz => hz.lt; omega))
  clear HCT
  have hq7 : (clL x.c).length = 7 := rfl
  have ha6 : (anL x.a).length = 6 := rfl
  have HQ7 := Lib.hid hq7; have HA6 := Lib.hid ha6
  clear hq7 ha6
  generalize x.th = th at *
  generalize clL x.c = q at *
  generalize anL x.a = a at *
  go_wp2_with (first
    | (refine wpList_load_row rfl 74 _ rfl g rfl 74 (rowOf 63 f) (0, 0) _ h1 Tryz.underlying74 rfl (by kernel_rfl) ?_)
    | (refine wpList_load_mid rfl 33 _ rfl (g + 1) 1 rfl q _ r1.out Tryz.underlying33 rfl (by rw [HQ7.out]; kernel_rfl) ?_)
    | (refine wpList_load_mid rfl 36 _ rfl (g + 1) 8 rfl a _ r2.out Tryz.underlying36 rfl (by rw [HA6.out]; kernel_rfl) ?_)
    | (go_at_call 40; refine HC1.out.mono ?_; rintro e w2 ⟨F, b, rfl, hQ, hF, hS, hb⟩; have HR2 := Lib.hid (HR1.out.keep hb); have HQ2 := Lib.hid hQ; have HF2 := Lib.hid hF; have HS2 := Lib.hid hS; have HB2 := Lib.hid hb; clear hQ hF hS hb; obtain ⟨Z, hz⟩ := HR2.out.rs)
    | (refine wpList_store_row rfl 74 _ _ rfl (g + 1 + 1) (rowOf 63 F) rfl rfl 74 (rowOf 63 Z) hz (by kernel_rfl) rfl (rowOf_all HF2.out) ?_))
  refine bodyPost_ret (results_cell_tmp (p := 4) (u := 5) (ty := 74) (by kernel_rfl) _ _ (g + 1 + 1) 74 (rowOf 63 F) (0, 0) _ rfl (hz.setRow_ _) Tryz.underlying74 rfl (by kernel_rfl)) rfl ?_
  refine ⟨F, b, rfl, HQ.out F b w2 _ _ HQ2.out (HS2.out.away (fun i k hi hk e => ?_) (by have h := HR1.out.rs.elim fun Z hz => hz.lt; omega)), HF2.out, by rw [HG.out]; exact HS2.out.mono (by have h := HR1.out.st.lt; omega), by rw [HG.out]; exact below_setRow_ HR2.out.bel (by omega) _⟩
  have := HFB.out i k hi hk
  omega
end Go.Proofs.YtiafjbhekfpkbaaGreatDoor
