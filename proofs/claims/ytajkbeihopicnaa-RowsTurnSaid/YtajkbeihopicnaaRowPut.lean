/- rows.Put, rows.Drop. -/
import Derived.Test.YtajkbeihopicnaaRowDel
import Derived.Test.YtajkbeihopicnaaRowAt
namespace Go.Proofs.Ytajkbeihopicnaa
open Go.ChangeShapes Go.WideShapes Go.ChangeAt Go.RowKit Go.Shelf

/-- Rows, a slice: what is handed back. -/
def Told (w : World) (v : Value) (L : List Rw) : Prop := ∃ A c, v = .slice A L.length c ∧ Lies w A L
theorem Told.keep {w w' : World} {v : Value} {L : List Rw} (h : Told w v L) (hb : Below w.heap.size w w') : Told w' v L := by
  obtain ⟨A, c, e, h⟩ := h
  exact ⟨A, c, e, h.keep hb⟩
theorem told_of_own {w : World} {base n : Nat} {v : Value} {e : TypeId} {L : List Rw} (h : w.ownsRow base e 3 v n (flat L)) : Told w v L := by
  have hn : n = L.length := by have := h.1; rw [flat_length] at this; omega
  obtain ⟨A, c, rfl, _, _, hl⟩ := lies_of_own h
  exact ⟨A, c, by rw [hn], hl⟩
theorem own_at {w w' : World} {base n : Nat} {v : Value} {e : TypeId} {L : List Rw} (h : w.ownsRow base e 3 v n (flat L)) (hb : Below w.heap.size w w') : w'.ownsRow base e 3 v n (flat L) := by
  refine ⟨h.1, ?_⟩
  rcases h.2 with h | ⟨g, cap, cur, h1, h2, h3, h4⟩
  · exact .inl h
  · exact .inr ⟨g, cap, cur, h1, h2, (hb.block g (Array.getElem?_eq_some_iff.1 h3).1).trans h3, h4⟩

set_option maxHeartbeats 2000000 in
theorem rPut_any (A : Option Addr) (c : Nat) (L : List Rw) (hL : L.length ≤ 1000 * 1000 - 1) (x : Rw) (w : World) (hl : Lies w A L) :
    Calls Try.prog 7 #[.slice A L.length c, .agg #[.int .i64 x.k, .int .u64 (x.a : Nat), .int .u64 (x.b : Nat)]] w fun e w' => ∃ v, e = .returned (.tuple #[v, .bool (!isAt L x.k)]) ∧ Told w' v (putL L x) ∧ Below w.heap.size w w' := by
  have hb3 : Box3 (w.alloc (.cells #[.int .i64 x.k, .int .u64 (x.a : Nat), .int .u64 (x.b : Nat)] 27)) w.heap.size x := Box3.new w x
  have hb1 : Below w.heap.size w (w.alloc (.cells #[.int .i64 x.k, .int .u64 (x.a : Nat), .int .u64 (x.b : Nat)] 27)) := (Below.refl _ w).alloc (Nat.le_refl _) _
  have c1 := rClone_any A c L (by omega) _ (hl.keep hb1)
  have c2 := fun A' c' w' h => rAt_any A' c' L (by omega) x.k w' h
  have c3 := fun base v w' (hown : w'.ownsRow base 27 3 v L.length (flat L)) hb0 vb hx hne => rInsert_any base v L L.length (findN L x.k) (by omega) (findN_le L x.k) x vb w' hown hb0 hx hne
  have hsz : (w.alloc (.cells #[.int .i64 x.k, .int .u64 (x.a : Nat), .int .u64 (x.b : Nat)] 27)).heap.size = w.heap.size + 1 := by simp
  have hput : putL L x = bif isAt L x.k then L else L.take (findN L x.k) ++ x :: L.drop (findN L x.k) := rfl
  have H := Lib.hid (And.intro hb3 (And.intro hb1 (And.intro hsz hput))); clear hb3 hb1 hsz hl hput
  have C1 := Lib.hid c1; have C2 := Lib.hid (fun A' c' w' h => c2 A' c' w' h); have C3 := Lib.hid (fun base v w' hown hb0 vb hx hne => c3 base v w' hown hb0 vb hx hne); clear c1 c2 c3
  generalize hm : L.length = m at *
  have HM := Lib.hid hm; clear hm
  generalize isAt L x.k = ia at *
  generalize findN L x.k = fn at *
  go_enter Try.func7, Try.ntmps7
  go_wp2_with (first
    | (go_at_call 18; refine C1.out.mono ?_; rintro e w1 ⟨v, rfl, hown, hb⟩; obtain ⟨A', c', rfl, _, _, hl1⟩ := lies_of_own hown
       have HO := Lib.hid hown; clear hown
       have hb' : Below w.heap.size w w1 := H.out.2.1.trans (hb.mono (by rw [H.out.2.2.1]; omega))
       have B3 : Box3 w1 w.heap.size x := (hb.block w.heap.size (by rw [H.out.2.2.1]; omega)).trans H.out.1
       have k0 := B3.cell0
       have R1 := Lib.hid (And.intro hb' (And.intro B3 hb)); clear hb' B3 hb)
    | (go_at_call 11; refine (C2.out _ _ _ hl1).mono ?_; rintro e w2 ⟨rfl, hb2⟩
       have B4 : Box3 w2 w.heap.size x := (hb2.block w.heap.size R1.out.2.1.lt).trans R1.out.2.1
       have q0 := B4.cell0
       have q1 := B4.cell1
       have q2 := B4.cell2
       have HO2 := Lib.hid (own_at HO.out hb2)
       have R2 := Lib.hid (And.intro (R1.out.1.trans (hb2.mono (by have := R1.out.1.size; omega))) (And.intro B4 hb2)); clear B4 hb2 k0)
    | (go_at_call 19
       refine (C3.out _ _ _ (own_at HO2.out ((Below.refl _ _).alloc (Nat.le_refl _) _)) (by rw [H.out.2.2.1]; have := R2.out.2.1.lt; simp; omega) _ ⟨_, heap_alloc_new w2 _⟩ (fun e => by have := (HO2.out.lt _ e).2; omega)).mono ?_
       rintro e w3 ⟨v', rfl, hown3, hb3⟩))
  · subst ia
    go_ret2
    exact ⟨_, rfl, by rw [H.out.2.2.2]; exact told_of_own HO2.out, R2.out.1⟩
  · obtain rfl : ia = false := by assumption
    go_ret2
    refine ⟨_, rfl, by rw [H.out.2.2.2]; exact told_of_own hown3, ?_⟩
    have h0 := R2.out.1.size
    exact (R2.out.1.alloc h0 _).trans (hb3.mono (by rw [H.out.2.2.1]; omega))

theorem Box3.only {F : Nat → Prop} {W W' : World} {B : Nat} {x : Rw} (h : Box3 W B x) (ho : Only F W W') (hn : ¬ F B) : Box3 W' B x := (ho.2 B h.lt hn).trans h
theorem Box3.drew {W : World} {B : Nat} {x : Rw} (h : Box3 W B x) : Box3 W.drew B x := h
theorem Box3.frozen {W : World} {B : Nat} {x : Rw} (h : Box3 W B x) (i : Nat) : W.frozen? ⟨B, i, none⟩ = false := by simp [World.frozen?, show W.heap[B]? = _ from h]
theorem Box3.other {W : World} {B B' : Nat} {x : Rw} (h : Box3 W B x) (hne : B ≠ B') (k i j : Nat) (u v t : Value) : Box3 (((W.setCell ⟨B', k, none⟩ u).setCell ⟨B', i, none⟩ v).setCell ⟨B', j, none⟩ t) B x :=
  (Below.heap_setCell _ ⟨B', j, none⟩ t B hne).trans ((Below.heap_setCell _ ⟨B', i, none⟩ v B hne).trans ((Below.heap_setCell _ ⟨B', k, none⟩ u B hne).trans h))
theorem Box3.stored {W : World} {B : Nat} {y : Rw} (h : Box3 W B y) (x : Rw) : Box3 (((W.setCell ⟨B, 0, none⟩ (.int .i64 x.k)).setCell ⟨B, 1, none⟩ (.int .u64 (x.a : Nat))).setCell ⟨B, 2, none⟩ (.int .u64 (x.b : Nat))) B x := by
  unfold Box3 at h ⊢
  simp [World.setCell, Array.getElem?_modify, h]
theorem Box3.alloc {W : World} {B : Nat} {x : Rw} (h : Box3 W B x) (o : Obj) : Box3 (W.alloc o) B x := (Below.heap_alloc W o B h.lt).trans h
theorem Box3.results {W : World} {B : Nat} {x : Rw} (h : Box3 W B x) : W.cell? ⟨B, 0, none⟩ = some (.int .i64 x.k) ∧ W.cell? ⟨B, 1, none⟩ = some (.int .u64 (x.a : Nat)) ∧ W.cell? ⟨B, 2, none⟩ = some (.int .u64 (x.b : Nat)) := ⟨h.cell0, h.cell1, h.cell2⟩

theorem own_only {F : Nat → Prop} {w w' : World} {base n : Nat} {v : Value} {e : TypeId} {L : List Rw} (h : w.ownsRow base e 3 v n (flat L)) (ho : Only F w w') (hF : ∀ i, F i → i < base) : w'.ownsRow base e 3 v n (flat L) := by
  refine ⟨h.1, ?_⟩
  rcases h.2 with h | ⟨g, cap, cur, h1, h2, h3, h4⟩
  · exact .inl h
  · exact .inr ⟨g, cap, cur, h1, h2, (ho.2 g (Array.getElem?_eq_some_iff.1 h3).1 (fun hf => absurd (hF g hf) (by omega))).trans h3, h4⟩
theorem only_set3 {F : Nat → Prop} {w0 W : World} {B : Nat} (h : Only F w0 W) (hB : F B) (k i j : Nat) (u v t : Value) : Only F w0 (((W.setCell ⟨B, k, none⟩ u).setCell ⟨B, i, none⟩ v).setCell ⟨B, j, none⟩ t) :=
  Only.setCell (Only.setCell (Only.setCell h (p := ⟨B, k, none⟩) hB u) (p := ⟨B, i, none⟩) hB v) (p := ⟨B, j, none⟩) hB t

theorem dropBelow {w W3 W : World} {h0 b : Nat} (h : Below h0 w W3) (hh : w.heap.size = h0) (hb : h0 + 1 ≤ b) (ho : Only (fun i => i = h0 ∨ i = b) W3 W) : Below w.heap.size w W := by
  subst hh
  exact Below.only h ho h.size (by omega)
theorem drop_a {W3 W4 : World} {h0 b n c : Nat} {off : Nat} {k i j : Nat} {u v t : Value} (h1 : Only (fun i => i = h0) W3 W3.drew) (h2 : Only (fun i => (Value.slice (some ⟨b, off, none⟩) n c).ownBlock = some i) W3.drew W4) :
    Only (fun i => i = h0 ∨ i = b) W3 (((W4.setCell ⟨h0, k, none⟩ u).setCell ⟨h0, i, none⟩ v).setCell ⟨h0, j, none⟩ t) :=
  only_set3 ((h1.mono fun _ _ h => .inl h).trans (h2.mono fun _ _ h => .inr (Option.some.inj h).symm)) (.inl rfl) k i j u v t
theorem drop_c {W3 X W4 : World} {h0 b n c : Nat} {off : Nat} (h1 : Only (fun i => i = h0) W3 X) (h2 : Only (fun i => (Value.slice (some ⟨b, off, none⟩) n c).ownBlock = some i) X W4) :
    Only (fun i => i = h0 ∨ i = b) W3 W4 := (h1.mono fun _ _ h => .inl h).trans (h2.mono fun _ _ h => .inr (Option.some.inj h).symm)


set_option maxHeartbeats 2000000 in
theorem rDrop_no (A : Option Addr) (c : Nat) (L : List Rw) (hL : L.length ≤ 1000 * 1000 - 1) (key : Int) (w : World) (hl : Lies w A L) (hno : isAt L key = false) :
    Calls Try.prog 9 #[.slice A L.length c, .int .i64 key] w fun e w' => ∃ v, e = .returned (.tuple #[v, .agg #[.int .i64 0, .int .u64 0, .int .u64 0], .bool false]) ∧ Told w' v L ∧ Below w.heap.size w w' := by
  have hb1 : Below w.heap.size w (w.alloc (.cells #[.int .i64 0, .int .u64 0, .int .u64 0] 27)) := (Below.refl _ w).alloc (Nat.le_refl _) _
  have c1 := rClone_any A c L (by omega) _ (hl.keep hb1)
  have c2 := fun A' c' w' h => rAt_any A' c' L (by omega) key w' h
  rw [hno] at c2
  have hb3 : Box3 (w.alloc (.cells #[.int .i64 0, .int .u64 0, .int .u64 0] 27)) w.heap.size ⟨0, 0, 0⟩ := Box3.new w ⟨0, 0, 0⟩
  have hsz : (w.alloc (.cells #[.int .i64 0, .int .u64 0, .int .u64 0] 27)).heap.size = w.heap.size + 1 := by simp
  have H := Lib.hid (And.intro hb3 (And.intro hb1 hsz)); clear hb3 hb1 hsz hl hno
  have C1 := Lib.hid c1; have C2 := Lib.hid (fun A' c' w' h => c2 A' c' w' h); clear c1 c2
  generalize hm : L.length = m at *
  have HM := Lib.hid hm; clear hm
  generalize findN L key = fn at *
  go_enter Try.func9, Try.ntmps9
  go_wp2_with (first
    | (go_at_call 18; refine C1.out.mono ?_; rintro e w1 ⟨v, rfl, hown, hb⟩; obtain ⟨A', c', rfl, _, _, hl1⟩ := lies_of_own hown
       rw [H.out.2.2] at hown
       have HO := Lib.hid hown; clear hown
       have hb' : Below w.heap.size w w1 := H.out.2.1.trans (hb.mono (by rw [H.out.2.2]; omega))
       have B3 : Box3 w1 w.heap.size ⟨0, 0, 0⟩ := (hb.block w.heap.size (by rw [H.out.2.2]; omega)).trans H.out.1
       have R1 := Lib.hid (And.intro hb' B3); clear hb' B3 hb)
    | (go_at_call 11; refine (C2.out _ _ _ hl1).mono ?_; rintro e w2 ⟨rfl, hb2⟩
       have B4 : Box3 w2 w.heap.size ⟨0, 0, 0⟩ := (hb2.block w.heap.size R1.out.2.lt).trans R1.out.2
       have q0 := B4.cell0
       have q1 := B4.cell1
       have q2 := B4.cell2
       have f0 := B4.frozen 0
       have f1 := B4.frozen 1
       have f2 := B4.frozen 2
       have HO2 := Lib.hid (own_at HO.out hb2)
       have hl2 := Lib.hid (hl1.keep hb2)
       have R2 := Lib.hid (And.intro (R1.out.1.trans (hb2.mono (by have := R1.out.1.size; omega))) B4); clear B4 hb2)
    )
  have B5 := Box3.stored R2.out.2 ⟨0, 0, 0⟩
  have e0 := B5.cell0
  have e1 := B5.cell1
  have e2 := B5.cell2
  refine bodyPost_ret (v := .tuple #[.slice A' m c', .agg #[.int .i64 0, .int .u64 0, .int .u64 0], .bool false]) ?_ rfl ⟨_, rfl, ?_, ?_⟩
  · simp only [Int.natCast_zero] at e0 e1 e2
    simp [results, Try.results9, go_sem, e0, e1, e2]
  · exact told_of_own (own_only HO2.out (only_set3 (F := fun i => i = w.heap.size) (Only.refl _ w2) rfl 0 1 2 _ _ _) (by omega))
  · exact Below.only R2.out.1 (only_set3 (F := fun i => i = w.heap.size) (Only.refl _ w2) rfl 0 1 2 _ _ _) R2.out.1.size (by omega)

set_option maxHeartbeats 2000000 in
theorem rDrop_yes (A : Option Addr) (c : Nat) (L : List Rw) (hL : L.length ≤ 1000 * 1000 - 1) (key : Int) (w : World) (hl : Lies w A L) (hno : isAt L key = true) :
    Calls Try.prog 9 #[.slice A L.length c, .int .i64 key] w fun e w' => ∃ v, e = .returned (.tuple #[v, .agg #[.int .i64 (nth L (findN L key)).k, .int .u64 ((nth L (findN L key)).a : Nat), .int .u64 ((nth L (findN L key)).b : Nat)], .bool true]) ∧ Told w' v (L.take (findN L key) ++ L.drop (findN L key + 1)) ∧ Below w.heap.size w w' := by
  have hb1 : Below w.heap.size w (w.alloc (.cells #[.int .i64 0, .int .u64 0, .int .u64 0] 27)) := (Below.refl _ w).alloc (Nat.le_refl _) _
  have c1 := rClone_any A c L (by omega) _ (hl.keep hb1)
  have c2 := fun A' c' w' h => rAt_any A' c' L (by omega) key w' h
  rw [hno] at c2
  have hb3 : Box3 (w.alloc (.cells #[.int .i64 0, .int .u64 0, .int .u64 0] 27)) w.heap.size ⟨0, 0, 0⟩ := Box3.new w ⟨0, 0, 0⟩
  have hsz : (w.alloc (.cells #[.int .i64 0, .int .u64 0, .int .u64 0] 27)).heap.size = w.heap.size + 1 := by simp
  have hlt : findN L key < L.length := (isAt_lt hno).1
  obtain ⟨m, hm⟩ : ∃ m, L.length = m + 1 := ⟨L.length - 1, by omega⟩
  have c3 := fun v w' (hown : w'.ownsRow (w.heap.size + 1) 27 3 v (m + 1) (flat L)) hb0 => rDelete_any (w.heap.size + 1) v L m (findN L key) (by omega) (by omega) w' hown hb0
  have H := Lib.hid (And.intro hb3 (And.intro hb1 hsz)); clear hb3 hb1 hsz hl hno
  have C1 := Lib.hid c1; have C2 := Lib.hid (fun A' c' w' h => c2 A' c' w' h); have C3 := Lib.hid (fun v w' hown hb0 => c3 v w' hown hb0); clear c1 c2 c3
  rw [hm] at hL C1 C2 ⊢
  generalize hfn : findN L key = fn at *
  have HM := Lib.hid (And.intro hm hfn); clear hm hfn
  generalize hx : nth L fn = x at *
  have HX := Lib.hid hx; clear hx
  go_enter Try.func9, Try.ntmps9
  go_upto_region 5 with (first
    | (go_at_call 18; refine C1.out.mono ?_; rintro e w1 ⟨v, rfl, hown, hb⟩; obtain ⟨A', c', rfl, _, _, hl1⟩ := lies_of_own hown
       rw [H.out.2.2] at hown
       have HO := Lib.hid hown; clear hown
       have hb' : Below w.heap.size w w1 := H.out.2.1.trans (hb.mono (by rw [H.out.2.2]; omega))
       have B3 : Box3 w1 w.heap.size ⟨0, 0, 0⟩ := (hb.block w.heap.size (by rw [H.out.2.2]; omega)).trans H.out.1
       have R1 := Lib.hid (And.intro hb' B3); clear hb' B3 hb)
    | (go_at_call 11; refine (C2.out _ _ _ hl1).mono ?_; rintro e w2 ⟨rfl, hb2⟩
       have B4 : Box3 w2 w.heap.size ⟨0, 0, 0⟩ := (hb2.block w.heap.size R1.out.2.lt).trans R1.out.2
       have q0 := B4.cell0
       have q1 := B4.cell1
       have q2 := B4.cell2
       have f0 := B4.frozen 0
       have f1 := B4.frozen 1
       have f2 := B4.frozen 2
       have HO2 := Lib.hid (own_at HO.out hb2)
       have hl2 := Lib.hid (hl1.keep hb2)
       have R2 := Lib.hid (And.intro (R1.out.1.trans (hb2.mono (by have := R1.out.1.size; omega))) B4); clear B4 hb2)
    )
  have hlt' : fn < m + 1 := by rw [← HM.out.1]; exact hlt
  obtain ⟨b, off, rfl, hb, hx⟩ := hl2.out.at_ (by rw [HM.out.1]; omega)
  obtain ⟨p0, p1, p2⟩ := hx fn hlt
  rw [HX.out] at p0 p1 p2
  clear hx
  rcases x with ⟨xk, xa, xb⟩
  go_upto_region 6 with fail
  have B10 : Box3 (w2.alloc (.cells #[.int .i64 xk, .int .u64 (xa : Nat), .int .u64 (xb : Nat)] 27)) w2.heap.size ⟨xk, xa, xb⟩ := Box3.new w2 ⟨xk, xa, xb⟩
  have B5 := R2.out.2.alloc (.cells #[.int .i64 xk, .int .u64 (xa : Nat), .int .u64 (xb : Nat)] 27)
  have hO3 := own_at HO2.out ((Below.refl _ w2).alloc (Nat.le_refl _) (.cells #[.int .i64 xk, .int .u64 (xa : Nat), .int .u64 (xb : Nat)] 27))
  have hB3 := R2.out.1.alloc R2.out.1.size (.cells #[.int .i64 xk, .int .u64 (xa : Nat), .int .u64 (xb : Nat)] 27)
  have hb1 : w.heap.size + 1 ≤ b := (HO2.out.lt b rfl).1
  have hs2 : w.heap.size < w2.heap.size := R2.out.2.lt
  obtain ⟨W3, hW3⟩ : ∃ W3, w2.alloc (.cells #[.int .i64 xk, .int .u64 (xa : Nat), .int .u64 (xb : Nat)] 27) = W3 := ⟨_, rfl⟩
  rw [hW3] at B10 B5 hO3 hB3 ⊢
  clear hW3 q0 q1 q2 f0 f1 f2 p0 p1 p2 hlt
  generalize w2.heap.size = h2 at *
  generalize hh : w.heap.size = h0 at *
  have n1 : b ≠ h2 := by omega
  have n2 : b ≠ h0 := by omega
  have n3 : h2 ≠ h0 := by omega
  have hO4 : ∀ W, Only (fun i => i = h0) W3 W → W.ownsRow (h0 + 1) 27 3 (.slice (some ⟨b, off, none⟩) (m + 1) c') (m + 1) (flat L) := fun W hW => own_only hO3 hW (by omega)
  have hz4 : ∀ W, Only (fun i => i = h0) W3 W → h0 + 1 ≤ W.heap.size := fun W hW => by have := hW.size; have := B5.lt; omega
  have D1 : Only (fun i => i = h0) W3 W3.drew := (Only.refl _ W3).drew
  have D2 := only_set3 D1 (B := h0) rfl 0 1 2 (.int .i64 xk) (.int .u64 (xa : Nat)) (.int .u64 (xb : Nat))
  have E1 : Box3 W3.drew h2 ⟨xk, xa, xb⟩ := B10
  have E2 : Box3 W3.drew h0 ⟨0, 0, 0⟩ := B5
  have E3 := E2.stored ⟨xk, xa, xb⟩
  have a0 := E1.cell0
  have a1 := E1.cell1
  have a2 := E1.cell2
  have b0 := E2.cell0
  have b1 := E2.cell1
  have b2 := E2.cell2
  have g0 := E2.frozen 0
  have g1 := E2.frozen 1
  have g2 := E2.frozen 2
  have HE := Lib.hid (And.intro D1 (And.intro D2 (And.intro E1 (And.intro E2 E3))))
  have HF := Lib.hid (And.intro (fun W hW => hO4 W hW) (fun W hW => hz4 W hW)); have HB3 := Lib.hid (And.intro hB3 (And.intro hh (And.intro n1 (And.intro n2 n3))))
  clear B10 B5 hO3 hB3 hO4 hz4 D1 D2 E1 E2 E3 hh n1 n2 n3
  have hw1 : IntKind.i64.wrap ((fn : Int) + 1) = (fn : Int) + 1 := by rw [IntKind.wrap_i64]; omega
  go_region_with (first
    | (go_at_call 20
       with_reducible refine (C3.out _ W3.drew (HF.out.1 _ HE.out.1) (HF.out.2 _ HE.out.1)).mono ?_
       rintro e w4 ⟨v', rfl, hown4, ho4⟩
       have E4 : Box3 w4 h2 ⟨xk, xa, xb⟩ := HE.out.2.2.1.only ho4 (fun e => HB3.out.2.2.1 (Option.some.inj e))
       have E5 : Box3 w4 h0 ⟨0, 0, 0⟩ := HE.out.2.2.2.1.only ho4 (fun e => HB3.out.2.2.2.1 (Option.some.inj e))
       have k0 := E4.cell0
       have k1 := E4.cell1
       have k2 := E4.cell2
       have l0 := E5.cell0
       have l1 := E5.cell1
       have l2 := E5.cell2
       have m0 := E5.frozen 0
       have m1 := E5.frozen 1
       have m2 := E5.frozen 2
       have HE4 := Lib.hid (And.intro E5 (And.intro hown4 ho4)); clear E4 E5 hown4 ho4)
    | (go_at_call 20
       with_reducible refine (C3.out _ _ (HF.out.1 _ HE.out.2.1) (HF.out.2 _ HE.out.2.1)).mono ?_
       rintro e w4 ⟨v', rfl, hown4, ho4⟩
       have HE4 := Lib.hid (And.intro (HE.out.2.2.2.2.only ho4 (fun e => HB3.out.2.2.2.1 (Option.some.inj e))) (And.intro hown4 ho4)); clear hown4 ho4))
  all_goals go_wp2_with fail
  all_goals
    have B6 := HE4.out.1
    first
      | (have B7 := B6.stored ⟨xk, xa, xb⟩
         have e0 := B7.cell0
         have e1 := B7.cell1
         have e2 := B7.cell2
         refine bodyPost_ret (v := .tuple #[v', .agg #[.int .i64 xk, .int .u64 (xa : Nat), .int .u64 (xb : Nat)], .bool true]) ?_ rfl ⟨_, rfl, ?_, ?_⟩
         · simp [results, Try.results9, go_sem, e0, e1, e2]
         · exact told_of_own (own_only HE4.out.2.1 (only_set3 (F := fun i => i = h0) (Only.refl _ w4) rfl 0 1 2 _ _ _) (by omega))
         · exact dropBelow HB3.out.1 (HB3.out.2.1) hb1 (drop_a HE.out.1 HE4.out.2.2))
      | (have e0 := B6.cell0
         have e1 := B6.cell1
         have e2 := B6.cell2
         refine bodyPost_ret (v := .tuple #[v', .agg #[.int .i64 xk, .int .u64 (xa : Nat), .int .u64 (xb : Nat)], .bool true]) ?_ rfl ⟨_, rfl, ?_, ?_⟩
         · simp [results, Try.results9, go_sem, e0, e1, e2]
         · exact told_of_own HE4.out.2.1
         · exact dropBelow HB3.out.1 (HB3.out.2.1) hb1 (drop_c HE.out.2.1 HE4.out.2.2))

/-- Drop: the list without the first row of a key, that row, and whether it was there. -/
theorem rDrop_any (A : Option Addr) (c : Nat) (L : List Rw) (hL : L.length ≤ 1000 * 1000 - 1) (key : Int) (w : World) (hl : Lies w A L) :
    Calls Try.prog 9 #[.slice A L.length c, .int .i64 key] w fun e w' => ∃ v, e = .returned (.tuple #[v, .agg #[.int .i64 (dropX L key).k, .int .u64 ((dropX L key).a : Nat), .int .u64 ((dropX L key).b : Nat)], .bool (isAt L key)]) ∧ Told w' v (dropL L key) ∧ Below w.heap.size w w' := by
  unfold dropX dropL
  cases h : isAt L key with
  | false => exact rDrop_no A c L hL key w hl h
  | true => exact rDrop_yes A c L hL key w hl h
end Go.Proofs.Ytajkbeihopicnaa
