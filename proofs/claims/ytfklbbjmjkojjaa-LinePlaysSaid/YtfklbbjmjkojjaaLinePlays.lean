/- The law LinePlays. -/
import Derived.Test.YtfklbbjmjkojjaaLineTurns
namespace Go.Proofs.Ytfklbbjmjkojjaa
open Go.ChangeShapes Go.WideShapes Go.ChangeAt Go.RowKit

theorem linePlays_long (A D E : Option Addr) (c d e0 : Nat) (L M O : List Pr) (h : 100 < L.length ∨ 100 < M.length ∨ 200 < O.length) (hL : L.length ≤ 9223372036854775807) (hM : M.length ≤ 9223372036854775807) (hO : O.length ≤ 9223372036854775807) (w : World) :
    Calls Try.prog 3 #[.slice A L.length c, .slice D M.length d, .slice E O.length e0] w fun e w' => e = .returned (.bool true) ∧ Below w.heap.size w w' := by
  have C9 := Lib.hid fun W => lives_any W
  generalize L.length = n at *
  generalize M.length = m at *
  generalize O.length = o at *
  by_cases h1 : 100 < n
  all_goals
    by_cases h2 : 100 < m
  all_goals
    go_enter Try.func3, Try.ntmps3
    go_wp2_with (go_at_call 6; refine (C9.out _).mono ?_; rintro e w' ⟨rfl, hb⟩)
    all_goals first
      | (exfalso; omega)
      | (go_ret; exact ⟨rfl, hb⟩)

/-- What holds between two steps: the line that it began with, the line q of X, the list x of Y. -/
structure PlayR (w W : World) (g7 g8 : Nat) (A7 : Option Addr) (n7 c7 : Nat) (L : List Pr) (A8 : Option Addr) (n c : Nat) (X : List Pr) (bx ox m cx : Nat) (Y : List Pr) : Prop where
  fst : VarR w W g7 A7 n7 c7 L
  q : VarR w W g8 A8 n c X
  x : LnIs W (.slice (some ⟨bx, ox, none⟩) m cx) m (flatP Y)
  len : Y.length = m
  ne : g7 ≠ g8
  nf : (Value.slice A7 n7 c7).ownBlock ≠ some g8
  nx : bx ≠ g8
section
variable {w W W' : World} {g7 g8 : Nat} {A7 : Option Addr} {n7 c7 : Nat} {L : List Pr} {A8 : Option Addr} {n c : Nat} {X : List Pr} {bx ox m cx : Nat} {Y : List Pr}
theorem PlayR.keep (h : PlayR w W g7 g8 A7 n7 c7 L A8 n c X bx ox m cx Y) (hb : Below W.heap.size W W') : PlayR w W' g7 g8 A7 n7 c7 L A8 n c X bx ox m cx Y :=
  ⟨h.fst.keep hb, h.q.keep hb, h.x.keep hb, h.len, h.ne, h.nf, h.nx⟩
theorem PlayR.drew (h : PlayR w W g7 g8 A7 n7 c7 L A8 n c X bx ox m cx Y) : PlayR w W.drew g7 g8 A7 n7 c7 L A8 n c X bx ox m cx Y := h.keep (Below.refl _ _).drew
theorem PlayR.store (h : PlayR w W g7 g8 A7 n7 c7 L A8 n c X bx ox m cx Y) (hb : Below W.heap.size W W') {A' : Option Addr} {n' c' : Nat} {X' : List Pr} (hl : LnIs W' (.slice A' n' c') n' (flatP X')) (hn : X'.length = n') (hf : (Value.slice A' n' c').ownBlock ≠ some g8) :
    PlayR w (W'.setCell ⟨g8, 0, none⟩ (.slice A' n' c')) g7 g8 A7 n7 c7 L A' n' c' X' bx ox m cx Y :=
  ⟨(h.fst.keep hb).far (p := ⟨g8, 0, none⟩) (fun e => h.ne e.symm) h.nf h.q.hb _, h.q.store hb hl hn hf,
   (h.x.keep hb).only ((Only.refl (fun i => i = g8) W').setCell (p := ⟨g8, 0, none⟩) rfl _) (fun k hk e => by cases hk; exact h.nx e), h.len, h.ne, h.nf, h.nx⟩
theorem PlayR.list (h : PlayR w W g7 g8 A7 n7 c7 L A8 n c X bx ox m cx Y) (hb : Below W.heap.size W W') {bx' ox' m' cx' : Nat} {Y' : List Pr} (hl : LnIs W' (.slice (some ⟨bx', ox', none⟩) m' cx') m' (flatP Y')) (hn : Y'.length = m') (hf : bx' ≠ g8) :
    PlayR w W' g7 g8 A7 n7 c7 L A8 n c X bx' ox' m' cx' Y' :=
  ⟨h.fst.keep hb, h.q.keep hb, hl, hn, h.ne, h.nf, hf⟩
theorem PlayR.xs (h : PlayR w W g7 g8 A7 n7 c7 L A8 n c X bx ox m cx Y) : m ≤ cx ∧ cx ≤ maxLen ∧ LiesC W (some ⟨bx, ox, none⟩) (flatP Y) ∧ bx < W.heap.size := by
  obtain ⟨_, _, e, x1, x2, x3, x4, x5⟩ := h.x
  cases e
  exact ⟨x1, x2, x4, x5 _ rfl⟩
end

/-- Where the new list's blocks lie: the empty one, the element's. -/
structure WayR (W V : World) (h : Nat) (bx ox : Nat) (cs : List Value) : Prop where
  own : V.ownsRow W.heap.size 29 2 (.slice (some ⟨h, 0, none⟩) 0 0) 0 []
  news : ∀ j u, cs[j]? = some u → V.cell? ((⟨bx, ox, none⟩ : Addr).add j) = some u
  bel : Below W.heap.size W V
  lt : h < V.heap.size
theorem WayR.a (W : World) (bx ox : Nat) (cs : List Value) (hl : LiesC W (some ⟨bx, ox, none⟩) cs) : WayR W (W.alloc (.cells #[] 29)).drew W.heap.size bx ox cs := by
  have hb : Below W.heap.size W (W.alloc (.cells #[] 29)).drew := ((Below.refl _ W).alloc (Nat.le_refl _) _).drew
  exact ⟨own_at2 (World.ownsRow_lit W #[] 0 (Nat.le_refl _) (by decide) rfl) (Below.refl _ _).drew, (hl.keep hb).news, hb, by show W.heap.size < (W.alloc (.cells #[] 29)).heap.size; simp⟩
theorem WayR.b (W : World) (bx ox : Nat) (cs : List Value) (ys : Array Value) (hl : LiesC W (some ⟨bx, ox, none⟩) cs) : WayR W ((W.alloc (.cells #[] 29)).alloc (.cells ys 29)).drew W.heap.size bx ox cs ∧ Cells ((W.alloc (.cells #[] 29)).alloc (.cells ys 29)).drew (W.heap.size + 1) 29 ys.toList := by
  have hb : Below W.heap.size W ((W.alloc (.cells #[] 29)).alloc (.cells ys 29)).drew := (((Below.refl _ W).alloc (Nat.le_refl _) _).alloc (by simp) _).drew
  refine ⟨⟨own_at2 (World.ownsRow_lit W #[] 0 (Nat.le_refl _) (by decide) rfl) (((Below.refl _ _).alloc (Nat.le_refl _) _).drew), (hl.keep hb).news, hb, by show W.heap.size < ((W.alloc (.cells #[] 29)).alloc (.cells ys 29)).heap.size; simp only [World.size_alloc]; omega⟩, ?_⟩
  have := Cells.new (W.alloc (.cells #[] 29)) ys 29
  rw [World.size_alloc] at this
  exact this.drew
theorem WayR.c (W : World) (bx ox : Nat) (cs : List Value) (ys : Array Value) (hl : LiesC W (some ⟨bx, ox, none⟩) cs) : WayR W ((W.alloc (.cells ys 29)).alloc (.cells #[] 29)).drew (W.heap.size + 1) bx ox cs ∧ Cells ((W.alloc (.cells ys 29)).alloc (.cells #[] 29)).drew W.heap.size 29 ys.toList := by
  have hb : Below W.heap.size W ((W.alloc (.cells ys 29)).alloc (.cells #[] 29)).drew := (((Below.refl _ W).alloc (Nat.le_refl _) _).alloc (by simp) _).drew
  have ho := World.ownsRow_lit (base := W.heap.size) (e := 29) (size := 2) (W.alloc (.cells ys 29)) #[] 0 (by simp) (by decide) rfl
  rw [World.size_alloc] at ho
  refine ⟨⟨own_at2 ho (Below.refl _ _).drew, (hl.keep hb).news, hb, by show W.heap.size + 1 < ((W.alloc (.cells ys 29)).alloc (.cells #[] 29)).heap.size; simp only [World.size_alloc]; omega⟩, ((Cells.new W ys _).alloc _).drew⟩
/-- Behind the first append. -/
theorem WayR.grown {W V V' : World} {h bx ox g cap n : Nat} {cs xs : List Value} (r : WayR W V h bx ox cs) (ho : V'.ownsRow W.heap.size 29 2 (.slice (some ⟨g, 0, none⟩) n cap) n xs) (hg : V.grownBy V' (Value.slice (some ⟨h, 0, none⟩) 0 0).ownBlock) :
    Below W.heap.size W V' := below_grown r.bel hg (fun k hk => (r.own.lt k hk).1) r.bel.size
/-- Behind the second one. -/
theorem below_second {W V V' : World} {g cap n : Nat} {xs : List Value} (hb : Below W.heap.size W V) (ho : V.ownsRow W.heap.size 29 2 (.slice (some ⟨g, 0, none⟩) n cap) n xs) (hg : V.grownBy V' (Value.slice (some ⟨g, 0, none⟩) n cap).ownBlock) : Below W.heap.size W V' :=
  below_grown hb hg (fun k hk => (ho.lt k hk).1) hb.size
theorem cells_grown {V V' : World} {h B : Nat} {y : Pr} (hc : Cells V B 29 [.int .u64 (y.a : Nat), .int .u64 (y.b : Nat)]) (hg : V.grownBy V' (Value.slice (some ⟨h, 0, none⟩) 0 0).ownBlock) (hne : B ≠ h) : Cells V' B 29 (flatP [y]) :=
  (hg.block B hc.lt (fun e => by cases e; exact hne rfl)).trans hc

theorem headS {w W : World} {g7 g8 g17 : Nat} {A7 : Option Addr} {n7 c7 : Nat} {L : List Pr} {A8 : Option Addr} {n c : Nat} {bx ox m cx : Nat} {x : Pr} {Y X : List Pr} (h : PlayR w W g7 g8 A7 n7 c7 L A8 n c X bx ox m cx (x :: Y)) (hc : Cells W g17 29 [.int .u64 (x.a : Nat), .int .u64 (x.b : Nat)]) :
    PlayR w W.drew g7 g8 A7 n7 c7 L A8 n c X bx ox m cx (x :: Y) ∧ W.drew.cell? ⟨g8, 0, none⟩ = some (.slice A8 n c) ∧ W.drew.cell? ⟨g17, 0, none⟩ = some (.int .u64 (x.a : Nat)) ∧ W.drew.cell? ⟨g17, 1, none⟩ = some (.int .u64 (x.b : Nat)) ∧ W.drew.cell? ⟨bx, ox, none⟩ = some (.int .u64 (x.a : Nat)) ∧ W.drew.cell? ⟨bx, ox + 1, none⟩ = some (.int .u64 (x.b : Nat)) := by
  obtain ⟨b, off, e, _, hx⟩ := h.xs.2.2.1.some_ (by rw [flatP_length]; simp)
  cases e
  exact ⟨h.drew, h.q.cell.cell0, hc.cell0, hc.cell1, hx 0 _ rfl, hx 1 _ rfl⟩
theorem refSame_below (A B : Option Addr) (c d : Nat) (L M : List Pr) (hL : L.length ≤ 1000000) (hM : M.length ≤ 1000000) (w : World) (ha : LiesC w A (flatP L)) (hb : LiesC w B (flatP M)) :
    Calls Try.prog 13 #[.slice A L.length c, .slice B M.length d] w fun e w' => e = .returned (.bool (decide (L = M))) ∧ Below w.heap.size w w' :=
  (refSame_any A B c d L M hL hM w ha hb).mono fun _ _ h => ⟨h.1, h.2.below _⟩
theorem LnIs.form {w : World} {v : Value} {n : Nat} {cs : List Value} (h : LnIs w v n cs) : ∃ A c, v = .slice A n c ∧ LiesC w A cs := by
  obtain ⟨A, c, e, _, _, _, hl, _⟩ := h
  exact ⟨A, c, e, hl⟩
/-! A pop: two variables are made behind the line's, one behind the list's. -/
theorem popR {w W w2 W3 : World} {g7 g8 : Nat} {A7 : Option Addr} {n7 c7 : Nat} {L : List Pr} {A8 : Option Addr} {n c : Nat} {X : List Pr} {bx ox m cx : Nat} {Y : List Pr} {v a b : Value} (h : PlayR w W g7 g8 A7 n7 c7 L A8 n c X bx ox m cx Y) (hb : Below W.heap.size W w2)
    (hW3 : (w2.alloc (.cells #[v] 25)).alloc (.cells #[a, b] 29) = W3) :
    Below W.heap.size W W3 ∧ (Cells W3 w2.heap.size 25 [v] ∧ Cells W3 (w2.heap.size + 1) 29 [a, b]) ∧ Cells W3 g8 25 [.slice A8 n c] ∧ Below w2.heap.size w2 W3 := by
  have h3 : Below w2.heap.size w2 W3 := by rw [← hW3]; exact ((Below.refl _ w2).alloc (Nat.le_refl _) _).alloc (by simp) _
  have hB := hb.trans (h3.mono hb.size)
  refine ⟨hB, ⟨?_, ?_⟩, h.q.cell.keep hB, h3⟩
  · rw [← hW3]; exact (Cells.new w2 #[v] _).alloc _
  · rw [← hW3]
    have := Cells.new (w2.alloc (.cells #[v] 25)) #[a, b] 29
    rw [World.size_alloc] at this
    exact this
theorem pop5 {W W3 w4 W5 : World} {g2 g8 : Nat} {u v a b a' b' : Value} {P : Prop} (h : Below W.heap.size W W3 ∧ (Cells W3 g2 25 [v] ∧ Cells W3 (g2 + 1) 29 [a, b]) ∧ Cells W3 g8 25 [u] ∧ P) (hb : Below W3.heap.size W3 w4) (hW5 : w4.alloc (.cells #[a', b'] 29) = W5) :
    W5.cell? ⟨g2, 0, none⟩ = some v ∧ W5.cell? ⟨g2 + 1, 0, none⟩ = some a ∧ W5.cell? ⟨g2 + 1, 1, none⟩ = some b ∧ W5.cell? ⟨w4.heap.size, 0, none⟩ = some a' ∧ W5.cell? ⟨w4.heap.size, 1, none⟩ = some b' ∧ W5.cell? ⟨g8, 0, none⟩ = some u ∧ W5.frozen? ⟨g8, 0, none⟩ = false := by
  obtain ⟨_, ⟨h1, h2⟩, h3, _⟩ := h
  have hb5 : Below W3.heap.size W3 W5 := by rw [← hW5]; exact hb.alloc hb.size _
  have h1 := h1.keep hb5
  have h2 := h2.keep hb5
  have h3 := h3.keep hb5
  have h4 : Cells W5 w4.heap.size 29 [a', b'] := by rw [← hW5]; exact Cells.new w4 #[a', b'] _
  exact ⟨h1.cell0, h2.cell0, h2.cell1, h4.cell0, h4.cell1, h3.cell0, h3.frozen 0⟩
theorem popF {w W w2 W3 w4 W5 : World} {g7 g8 : Nat} {A7 : Option Addr} {n7 c7 : Nat} {L : List Pr} {A8 : Option Addr} {n c : Nat} {X : List Pr} {bx ox m cx : Nat} {Y : List Pr} {o : Obj} (h : PlayR w W g7 g8 A7 n7 c7 L A8 n c X bx ox m cx Y) (hB : Below W.heap.size W W3)
    {A9 : Option Addr} {r' c9 : Nat} {X' : List Pr} (hq : LnIs w2 (.slice A9 r' c9) r' (flatP X')) (_h0 : 0 ≤ 0) (_hb2 : Below W.heap.size W w2) (h23 : Below w2.heap.size w2 W3) {bx' ox' cx' : Nat}
    (hx : LnIs w4 (.slice (some ⟨bx', ox', none⟩) r' cx') r' (flatP X')) (hb4 : Below W3.heap.size W3 w4) (hnx : bx' ≠ g8) (hn : X'.length = r') (hne : (Value.slice A9 r' c9).ownBlock ≠ some g8) (hW5 : w4.alloc o = W5) :
    PlayR w (W5.setCell ⟨g8, 0, none⟩ (.slice A9 r' c9)) g7 g8 A7 n7 c7 L A9 r' c9 X' bx' ox' r' cx' X' := by
  have h45 : Below w4.heap.size w4 W5 := by rw [← hW5]; exact (Below.refl _ _).alloc (Nat.le_refl _) _
  have h35 := hb4.trans (h45.mono hb4.size)
  have h1 := (h.keep hB).list h35 (hx.keep h45) hn hnx
  exact h1.store (Below.refl _ _) (hq.keep (h23.trans (h35.mono h23.size))) hn hne
set_option maxHeartbeats 4000000 in
set_option maxRecDepth 100000 in
theorem linePlays_short (A D E : Option Addr) (c d e0 : Nat) (L M O : List Pr) (hL : L.length ≤ 100) (hM : M.length ≤ 100) (hO : O.length ≤ 200) (w : World) (hA : LiesC w A (flatP L)) (hD : LiesC w D (flatP M)) (hE : LiesC w E (flatP O)) :
    Calls Try.prog 3 #[.slice A L.length c, .slice D M.length d, .slice E O.length e0] w fun e w' => e = .returned (.bool true) ∧ Below w.heap.size w w' := by
  have C9 := Lib.hid fun W => lives_any W
  have C1 := Lib.hid (fun W h => lnPOf_any A c L (by omega) W h)
  have CE := Lib.hid (fun W h => lnPOf_any E e0 O (by omega) W h)
  have C2 := Lib.hid fun A' c' X x W h0 h1 h2 h3 h4 => lnPPush_any A' c' X h0 h1 h2 h3 x W h4
  have C3 := Lib.hid fun A' c' x X W h0 h1 h2 h4 => lnPPop_some A' c' x X h0 h1 h2 W h4
  have C4 := Lib.hid fun A' c' W => lnPPop_nil A' c' W
  have C5 := Lib.hid fun A' n' c' W => lnPLen_any A' n' c' W
  obtain ⟨i0, hi0, hz0, hz1, hz3⟩ := infoP
  have hfl := flatP_length L
  generalize hm : L.length = n at *
  generalize hm2 : M.length = m at *
  generalize hm3 : O.length = o at *
  have HM := Lib.hid (And.intro hm (And.intro hm2 hm3)); clear hm hm2 hm3
  have HA := Lib.hid (And.intro hA (And.intro hD hE)); clear hA hD hE
  go_enter Try.func3, Try.ntmps3
  go_upto_region 4 with (go_at_call 7; refine (C1.out _ HA.out.1).mono ?_; rintro e w1 ⟨v, rfl, h1, -, hb⟩; have H1 := Lib.hid (And.intro h1 hb); obtain ⟨A1, c1, rfl, -⟩ := h1; clear hb)
  obtain ⟨W1, hW1⟩ : ∃ W1, w1.alloc (.cells #[.slice A1 n c1] 25) = W1 := ⟨_, rfl⟩
  have V1 : VarR w W1 w1.heap.size A1 n c1 L := by rw [← hW1]; exact VarR.new H1.out.2 H1.out.1 HM.out.1
  rw [hW1]
  clear hW1 H1
  generalize w1.heap.size = g7 at *
  clear w1
  have q7 := V1.cell.cell0
  have R1 := Lib.hid V1; clear V1
  go_upto_region 5 with fail
  obtain ⟨W2, hW2⟩ : ∃ W2, W1.alloc (.cells #[.slice A1 n c1] 25) = W2 := ⟨_, rfl⟩
  have B2 : Below W1.heap.size W1 W2 := by rw [← hW2]; exact (Below.refl _ _).alloc (Nat.le_refl _) _
  have V2 : VarR w W2 W1.heap.size A1 n c1 L := by rw [← hW2]; exact VarR.new R1.out.bel R1.out.ln HM.out.1
  have hlt7 : g7 < W1.heap.size := R1.out.cell.lt
  have V7 := R1.out.keep B2
  have hlit := World.ownsRow_lit (base := W2.heap.size) (e := 29) (size := 2) W2 #[] 0 (Nat.le_refl _) (by decide) rfl
  have hnf : (Value.slice A1 n c1).ownBlock ≠ some W1.heap.size := V2.ne
  have hls := (HA.out.1.keep V2.bel).alloc (.cells #[] 29)
  have hlt8 : W1.heap.size < W2.heap.size := V2.cell.lt
  rw [hW2]
  clear hW2 q7 B2
  generalize W1.heap.size = g8 at *
  clear R1 W1
  have HV := Lib.hid (And.intro V7 (And.intro V2 (And.intro hlit (And.intro hls (And.intro hfl (flatP_one L)))))); clear V7 V2 hlit hls hfl
  go_cut [9] (fun s wx => ∃ bx ox cx, s = .slice (some ⟨bx, ox, none⟩) n cx ∧ PlayR w wx g7 g8 A1 n c1 L A1 n c1 L bx ox n cx L)
  case first =>
    cases A with
    | none =>
      obtain rfl : n = 0 := by
        rcases HA.out.1 with h | ⟨b, off, e, _⟩
        · have := HV.out.2.2.2.2.1; rw [h] at this; simp at this; omega
        · cases e
      go_wp2_with fail
      go_meet
      have hb : Below W2.heap.size W2 (W2.alloc (.cells #[] 29)) := (Below.refl _ _).alloc (Nat.le_refl _) _
      exact ⟨_, _, _, rfl, HV.out.1.keep hb, HV.out.2.1.keep hb, by rw [List.eq_nil_of_length_eq_zero HM.out.1]; exact lit_is (by simp), HM.out.1, by omega, hnf, by omega⟩
    | some a =>
      go_wp2_with (at_builtin; refine wpList_append_own _ rfl _ _ 22 rfl W2.heap.size 29 i0 (.agg #[.int .u64 0, .int .u64 0]) 2 16 Try.underlying22 hi0 hz0 hz1 hz3 rfl (by decide) _ 0 [] rfl HV.out.2.2.1 a n c (flatP L) rfl HV.out.2.2.2.2.1 HV.out.2.2.2.1.news HV.out.2.2.2.2.2 (by unfold maxLen; omega) (by omega) (by simp) ?_; intro v1 w3 hown hgrow hnil)
      rw [Nat.zero_add, List.nil_append] at hown
      go_meet
      have hb4 : Below W2.heap.size W2 w3 := below_new hgrow rfl
      have hne : v1 ≠ .slice none 0 0 := fun e => by have := (hnil.1 e).1; cases this
      have hv := lnIs_of_own hown
      rcases hown.2 with ⟨h, _⟩ | ⟨g, c2, cur, rfl, h1, h2, h3, h4, h5⟩
      · exact absurd h hne
      · exact ⟨g, 0, c2, rfl, HV.out.1.keep hb4, HV.out.2.1.keep hb4, hv, HM.out.1, by omega, hnf, by omega⟩
  case rest =>
    obtain ⟨bx, ox, cx, rfl, R⟩ := hcut
    have R0 := Lib.hid R; clear R HV
    go_wp2_with fail
    go_loopw [9, 10] (fun x i wr => ∃ (k : Nat) (A8 : Option Addr) (r c8 : Nat) (X : List Pr) (bx ox cx : Nat), x = .slice (some ⟨bx, ox, none⟩) r cx ∧ i = .int .i64 k ∧ k ≤ m ∧ r ≤ n + k ∧ PlayR w wr g7 g8 A1 n c1 L A8 r c8 X bx ox r cx X) (fun _ i _ => m - (intOf i).toNat)
    case atStart => exact ⟨0, A1, n, c1, L, bx, ox, cx, rfl, rfl, Nat.zero_le _, by omega, R0.out⟩
    case round =>
      clear R0
      obtain ⟨k, A8, r, c8, X, bx, ox, cx, rfl, rfl, hk, hr, R⟩ := hrel
      by_cases hlt : k < m
      · obtain ⟨b2, off2, rfl, hb2, hx⟩ := HA.out.2.1.atP (by rw [HM.out.2.1]; omega)
        have hx' := hx k (by rw [HM.out.2.1]; omega)
        have HR := Lib.hid R
        clear R hx
        generalize hy : nthP M k = y at *
        clear hy
        have HY : Hid (∀ W, Below w.heap.size w W → W.cell? ⟨b2, off2 + k * 2, none⟩ = some (.int .u64 (y.a : Nat)) ∧ W.cell? ⟨b2, off2 + k * 2 + 1, none⟩ = some (.int .u64 (y.b : Nat))) := Lib.hid fun W hb => ⟨(hb.cell (p := ⟨b2, off2 + k * 2, none⟩) hb2).trans hx'.1, (hb.cell (p := ⟨b2, off2 + k * 2 + 1, none⟩) hb2).trans hx'.2⟩
        obtain ⟨p0, p1⟩ := HY.out wr HR.out.q.bel
        clear hx'
        go_upto_if 50 with fail
        go_cut [9, 11, 12, 13, 14, 15, 16] (fun x x11 x12 x13 x14 x15 x16 wx => ∃ (A8 : Option Addr) (r' c8 : Nat) (X : List Pr) (bx ox cx : Nat), x = .slice (some ⟨bx, ox, none⟩) r' cx ∧ r' ≤ n + (k + 1) ∧ PlayR w wx g7 g8 A1 n c1 L A8 r' c8 X bx ox r' cx X)
        case first =>
          cases hy0 : decide ((y.a : Int) = 0)
          · -- DEV it is put behind
            have hy1 : ((y.a : Int) != 0) = true := by simpa using hy0
            go_upto_region 10 with fail
            have q8 := HR.out.q.cell.cell0
            have P2 := fun W h => C2.out A8 c8 X y W (by rw [HR.out.q.len]; omega) (by rw [HR.out.q.len]; exact HR.out.q.parts.1) HR.out.q.parts.2.1 HR.out.q.parts.2.2.1 h
            rw [HR.out.q.len] at P2
            have HP := Lib.hid (fun W h => P2 W h)
            clear P2
            go_cut [] (fun wx => ∃ A9 c9, PlayR w wx g7 g8 A1 n c1 L A9 (r + 1) c9 (X ++ [y]) bx ox r cx X)
            case first =>
              go_region_with (go_at_call 8; refine (HP.out _ HR.out.q.drew.parts.2.2.2).mono ?_; rintro e w2 ⟨v, rfl, h1, hf, hb⟩
                              obtain ⟨A9, c9, hv, -⟩ : ∃ A3 c3, v = .slice A3 (r + 1) c3 ∧ True := by obtain ⟨A3, c3, e, -⟩ := h1; exact ⟨A3, c3, e, trivial⟩
                              subst hv
                              have r0 := (HR.out.q.drew.cell.keep hb).cell0
                              have r1 := (HR.out.q.drew.cell.keep hb).frozen 0
                              have HS := Lib.hid (HR.out.drew.store hb h1 (by rw [List.length_append, HR.out.q.len]; rfl) (far_ne hf HR.out.q.drew.cell.lt)))
              all_goals
                go_wp2_with fail
                go_meet
                exact ⟨_, _, HS.out⟩
            case rest =>
              clear q8 p0 p1 HP HR
              obtain ⟨A9, c9, hS⟩ := hcut
              have HS := Lib.hid hS
              clear hS
              generalize wc = W at *
              go_upto_region 11 with fail
              obtain ⟨z0, z1⟩ := HY.out W HS.out.q.bel
              have hbW : b2 < W.heap.size := Nat.lt_of_lt_of_le hb2 HS.out.q.bel.size
              have hlx := HS.out.xs.2.2.1
              have HX := Lib.hid (And.intro (WayR.a W bx ox (flatP X) hlx) (And.intro (WayR.b W bx ox (flatP X) #[.int .u64 (y.a : Nat), .int .u64 (y.b : Nat)] hlx) (WayR.c W bx ox (flatP X) #[.int .u64 (y.a : Nat), .int .u64 (y.b : Nat)] hlx)))
              have hfl : (flatP X).length = r * 2 := by rw [flatP_length, HS.out.len]
              clear hlx
              cases r with
              | zero =>
                obtain rfl : X = [] := List.eq_nil_of_length_eq_zero HS.out.len
                go_region_law (first
                  | (refine step_append_lies _ rfl _ _ 22 rfl W.heap.size 29 i0 (.agg #[.int .u64 0, .int .u64 0]) 2 16 Try.underlying22 hi0 hz0 hz1 hz3 rfl (by decide) (.slice (some ⟨W.heap.size, 0, none⟩) 0 0) 0 [] rfl HX.out.2.1.1.own ⟨W.heap.size + 1, 0, none⟩ 1 1 (flatP [y]) rfl rfl HX.out.2.1.2.news (flatP_one [y]) (by omega) (by unfold maxLen; omega) (by omega) HX.out.2.1.1.bel.size _ rfl ?_; intro g cap w3 hown hgrow hgg hglt; have HB := Lib.hid (And.intro hown (below_second HX.out.2.1.1.bel HX.out.2.1.1.own hgrow)))
                  | (refine step_append_lies _ rfl _ _ 22 rfl W.heap.size 29 i0 (.agg #[.int .u64 0, .int .u64 0]) 2 16 Try.underlying22 hi0 hz0 hz1 hz3 rfl (by decide) (.slice (some ⟨W.heap.size + 1, 0, none⟩) 0 0) 0 [] rfl HX.out.2.2.1.own ⟨W.heap.size, 0, none⟩ 1 1 (flatP [y]) rfl rfl HX.out.2.2.2.news (flatP_one [y]) (by omega) (by unfold maxLen; omega) (by omega) HX.out.2.2.1.bel.size _ rfl ?_; intro g cap w3 hown hgrow hgg hglt; have HB := Lib.hid (And.intro hown (below_second HX.out.2.2.1.bel HX.out.2.2.1.own hgrow))))
                all_goals
                  clear hown hgrow hgg hglt z0 z1
                  have HD := Lib.hid (HS.out.list HB.out.2 (bx' := g) (Y' := [] ++ [y]) (by rw [flatP_append]; exact lnIs_of_own HB.out.1) rfl (fun e => by have h1 : W.heap.size ≤ g := (HB.out.1.lt g rfl).1; have h2 := HS.out.q.cell.lt; omega))
                  go_wp2_with fail
                  go_meet
                  exact ⟨A9, _, c9, _, g, 0, cap, rfl, by omega, HD.out⟩
              | succ r =>
                go_region_law (first
                  | (refine step_append_lies _ rfl _ _ 22 rfl W.heap.size 29 i0 (.agg #[.int .u64 0, .int .u64 0]) 2 16 Try.underlying22 hi0 hz0 hz1 hz3 rfl (by decide) (.slice (some ⟨W.heap.size, 0, none⟩) 0 0) 0 [] rfl HX.out.1.own ⟨bx, ox, none⟩ (r + 1) cx (flatP X) rfl hfl HX.out.1.news (flatP_one X) (by omega) (by unfold maxLen; omega) (by omega) HX.out.1.bel.size _ rfl ?_; intro g1 cap1 w3 hown1 hgrow1 hgg1 hglt1; rw [Nat.zero_add, List.nil_append] at hown1; have HB1 := Lib.hid (And.intro hown1 (HX.out.1.grown hown1 hgrow1)); have zz := HY.out w3 (HS.out.q.bel.trans (HB1.out.2.mono HS.out.q.bel.size)); have z2 := zz.1; have z3 := zz.2; have hb3 : b2 < w3.heap.size := Nat.lt_of_lt_of_le hbW HB1.out.2.size; have hz4 : Hid (Cells (w3.alloc (.cells #[.int .u64 (y.a : Nat), .int .u64 (y.b : Nat)] 29)) w3.heap.size 29 (flatP [y])) := Lib.hid (Cells.new w3 _ _); clear zz hown1 hgrow1 hgg1 hglt1)
                  | (refine step_append_lies _ rfl _ _ 22 rfl W.heap.size 29 i0 (.agg #[.int .u64 0, .int .u64 0]) 2 16 Try.underlying22 hi0 hz0 hz1 hz3 rfl (by decide) (.slice (some ⟨W.heap.size, 0, none⟩) 0 0) 0 [] rfl HX.out.2.1.1.own ⟨bx, ox, none⟩ (r + 1) cx (flatP X) rfl hfl HX.out.2.1.1.news (flatP_one X) (by omega) (by unfold maxLen; omega) (by omega) HX.out.2.1.1.bel.size _ rfl ?_; intro g1 cap1 w3 hown1 hgrow1 hgg1 hglt1; rw [Nat.zero_add, List.nil_append] at hown1; have HB1 := Lib.hid (And.intro hown1 (HX.out.2.1.1.grown hown1 hgrow1)); have hz5 : Hid (Cells w3 (W.heap.size + 1) 29 (flatP [y])) := Lib.hid (cells_grown HX.out.2.1.2 hgrow1 (by omega)); clear hown1 hgrow1 hgg1 hglt1)
                  | (refine step_append_lies _ rfl _ _ 22 rfl W.heap.size 29 i0 (.agg #[.int .u64 0, .int .u64 0]) 2 16 Try.underlying22 hi0 hz0 hz1 hz3 rfl (by decide) (.slice (some ⟨W.heap.size + 1, 0, none⟩) 0 0) 0 [] rfl HX.out.2.2.1.own ⟨bx, ox, none⟩ (r + 1) cx (flatP X) rfl hfl HX.out.2.2.1.news (flatP_one X) (by omega) (by unfold maxLen; omega) (by omega) HX.out.2.2.1.bel.size _ rfl ?_; intro g1 cap1 w3 hown1 hgrow1 hgg1 hglt1; rw [Nat.zero_add, List.nil_append] at hown1; have HB1 := Lib.hid (And.intro hown1 (HX.out.2.2.1.grown hown1 hgrow1)); have hz5 : Hid (Cells w3 W.heap.size 29 (flatP [y])) := Lib.hid (cells_grown HX.out.2.2.2 hgrow1 (by omega)); clear hown1 hgrow1 hgg1 hglt1)
                  | (refine step_append_lies _ rfl _ _ 22 rfl W.heap.size 29 i0 (.agg #[.int .u64 0, .int .u64 0]) 2 16 Try.underlying22 hi0 hz0 hz1 hz3 rfl (by decide) (.slice (some ⟨g1, 0, none⟩) (r + 1) cap1) (r + 1) (flatP X) rfl (HB1.out.1.alloc _) ⟨w3.heap.size, 0, none⟩ 1 1 (flatP [y]) rfl rfl hz4.out.news (flatP_one [y]) (by omega) (by unfold maxLen; omega) (by omega) (by have := HB1.out.2.size; rw [World.size_alloc]; omega) _ rfl ?_; intro g cap w4 hown hgrow hgg hglt; have HB := Lib.hid (And.intro hown (below_second (HB1.out.2.alloc HB1.out.2.size _) (HB1.out.1.alloc _) hgrow)))
                  | (refine step_append_lies _ rfl _ _ 22 rfl W.heap.size 29 i0 (.agg #[.int .u64 0, .int .u64 0]) 2 16 Try.underlying22 hi0 hz0 hz1 hz3 rfl (by decide) (.slice (some ⟨g1, 0, none⟩) (r + 1) cap1) (r + 1) (flatP X) rfl HB1.out.1 ⟨W.heap.size + 1, 0, none⟩ 1 1 (flatP [y]) rfl rfl hz5.out.news (flatP_one [y]) (by omega) (by unfold maxLen; omega) (by omega) HB1.out.2.size _ rfl ?_; intro g cap w4 hown hgrow hgg hglt; have HB := Lib.hid (And.intro hown (below_second HB1.out.2 HB1.out.1 hgrow)))
                  | (refine step_append_lies _ rfl _ _ 22 rfl W.heap.size 29 i0 (.agg #[.int .u64 0, .int .u64 0]) 2 16 Try.underlying22 hi0 hz0 hz1 hz3 rfl (by decide) (.slice (some ⟨g1, 0, none⟩) (r + 1) cap1) (r + 1) (flatP X) rfl HB1.out.1 ⟨W.heap.size, 0, none⟩ 1 1 (flatP [y]) rfl rfl hz5.out.news (flatP_one [y]) (by omega) (by unfold maxLen; omega) (by omega) HB1.out.2.size _ rfl ?_; intro g cap w4 hown hgrow hgg hglt; have HB := Lib.hid (And.intro hown (below_second HB1.out.2 HB1.out.1 hgrow))))
                all_goals
                  clear hown hgrow hgg hglt
                  have HD := Lib.hid (HS.out.list HB.out.2 (bx' := g) (Y' := X ++ [y]) (by rw [flatP_append]; exact lnIs_of_own HB.out.1) (by rw [List.length_append, HS.out.len]; rfl) (fun e => by have h1 : W.heap.size ≤ g := (HB.out.1.lt g rfl).1; have h2 := HS.out.q.cell.lt; omega))
                  go_wp2_with fail
                  go_meet
                  exact ⟨A9, _, c9, _, g, 0, cap, rfl, by omega, HD.out⟩
          · -- DEV
            have hy1 : ((y.a : Int) != 0) = false := by simpa using hy0
            have q8 := HR.out.q.cell.cell0
            cases X with
            | nil =>
              obtain rfl : r = 0 := HR.out.q.len.symm
              go_upto_region 13 with (go_at_call 9; refine (C4.out A8 c8 _).mono ?_; rintro e w2 ⟨rfl, hb⟩; have H1 := Lib.hid (And.intro (HR.out.q.ln.keep hb) (And.intro HR.out.q.ne hb)); clear hb q8)
              obtain ⟨W3, hW3⟩ : ∃ W3, (w2.alloc (.cells #[.slice A8 0 c8] 25)).alloc (.cells #[.int .u64 0, .int .u64 0] 29) = W3 := ⟨_, rfl⟩
              have D3 := Lib.hid (popR HR.out H1.out.2.2 hW3)
              rw [hW3]
              clear hW3
              go_upto_region 14 with (go_at_call 10; refine (refWithout_nil _ _ _).mono ?_; rintro e w4 ⟨rfl, hb⟩; have H4 := Lib.hid (And.intro (HR.out.x.keep (D3.out.1.trans (hb.mono D3.out.1.size))) (And.intro HR.out.nx hb)); clear hb)
              obtain ⟨W5, hW5⟩ : ∃ W5, w4.alloc (.cells #[.int .u64 0, .int .u64 0] 29) = W5 := ⟨_, rfl⟩
              have D5 := pop5 D3.out H4.out.2.2 hW5
              rw [hW5]
              have HF := Lib.hid (popF HR.out D3.out.1 H1.out.1 (Nat.le_refl _) H1.out.2.2 D3.out.2.2.2 H4.out.1 H4.out.2.2 H4.out.2.1 rfl HR.out.q.ne hW5)
              obtain ⟨k0, k1, k2, k3, k4, k5, k6⟩ := D5
              have HQ : ∀ W, (binOp .neq 29 (.agg #[.int .u64 0, .int .u64 0]) (.agg #[.int .u64 0, .int .u64 0])).run Try.prog W = .ok (.bool false) W := fun W => by rw [show (Value.agg #[.int .u64 0, .int .u64 0]) = .agg #[.int .u64 ((Pr.mk 0 0).a : Nat), .int .u64 ((Pr.mk 0 0).b : Nat)] from rfl, neq_pr W ⟨0, 0⟩ ⟨0, 0⟩, decide_eq_true rfl]; rfl
              clear hW5 D3 H1 H4
              go_wp2_with fail
              go_meet
              exact ⟨A8, 0, c8, [], bx, ox, cx, rfl, by omega, HF.out⟩
            | cons x0 Y =>
              obtain ⟨r, rfl⟩ : ∃ r0, r = r0 + 1 := ⟨Y.length, HR.out.q.len.symm⟩
              have hY : Y.length = r := by have := HR.out.q.len; simpa using this
              have P3 := fun W h => C3.out A8 c8 x0 Y W (by rw [hY]; omega) (by rw [hY]; exact HR.out.q.parts.1) HR.out.q.parts.2.1 h
              have P4 := fun W h => refWithout_some bx ox cx x0 Y (by rw [hY]; omega) (by rw [hY]; exact HR.out.xs.1) HR.out.xs.2.1 W h
              rw [hY] at P3 P4
              have HP := Lib.hid (And.intro (fun W h => P3 W h) (fun W h => P4 W h))
              clear P3 P4
              go_upto_region 13 with (go_at_call 9; refine (HP.out.1 _ HR.out.q.parts.2.2.2).mono ?_; rintro e w2 ⟨v, rfl, h1, hf, hb⟩; have H1 := Lib.hid (And.intro h1 (And.intro hf hb)); obtain ⟨A9, c9, rfl, -⟩ := h1; clear hb q8 hf)
              obtain ⟨W3, hW3⟩ : ∃ W3, (w2.alloc (.cells #[.slice A9 r c9] 25)).alloc (.cells #[.int .u64 (x0.a : Nat), .int .u64 (x0.b : Nat)] 29) = W3 := ⟨_, rfl⟩
              have D3 := Lib.hid (popR HR.out H1.out.2.2 hW3)
              have hne : (Value.slice A9 r c9).ownBlock ≠ some g8 := by rw [H1.out.2.1, ownBlock_slice A8 0 0 (r + 1) c8]; exact HR.out.q.ne
              rw [hW3]
              clear hW3
              go_upto_region 14 with (go_at_call 10; refine (HP.out.2 _ (HR.out.xs.2.2.1.keep D3.out.1)).mono ?_; rintro e w4 ⟨v, rfl, h1, hf, hsome, hb⟩
                                      obtain ⟨bx', cx', hv⟩ := hsome
                                      subst hv
                                      have H4 := Lib.hid (And.intro h1 (And.intro (show bx' ≠ g8 from fun e => by have h2 : W3.heap.size ≤ bx' := hf bx' rfl; have h3 := D3.out.2.2.1.lt; omega) hb)); clear hb h1 hf)
              obtain ⟨W5, hW5⟩ : ∃ W5, w4.alloc (.cells #[.int .u64 (x0.a : Nat), .int .u64 (x0.b : Nat)] 29) = W5 := ⟨_, rfl⟩
              have D5 := pop5 D3.out H4.out.2.2 hW5
              rw [hW5]
              have HF := Lib.hid (popF HR.out D3.out.1 H1.out.1 (Nat.le_refl _) H1.out.2.2 D3.out.2.2.2 H4.out.1 H4.out.2.2 H4.out.2.1 hY hne hW5)
              obtain ⟨k0, k1, k2, k3, k4, k5, k6⟩ := D5
              have HQ : ∀ W, (binOp .neq 29 (.agg #[.int .u64 (x0.a : Nat), .int .u64 (x0.b : Nat)]) (.agg #[.int .u64 (x0.a : Nat), .int .u64 (x0.b : Nat)])).run Try.prog W = .ok (.bool false) W := fun W => by rw [neq_pr W x0 x0, decide_eq_true rfl]; rfl
              clear hW5 D3 H1 H4
              go_wp2_with fail
              go_meet
              exact ⟨A9, r, c9, Y, bx', 0, cx', rfl, by omega, HF.out⟩
        case rest =>
          obtain ⟨A9, r', c9, X', bx', ox', cx', rfl, hr', R⟩ := hcut
          clear HR p0 p1 HY hr
          have HR := Lib.hid R
          clear R
          generalize wc = W at *
          have q8 := HR.out.q.cell.cell0
          have hw : IntKind.i64.wrap ((k : Int) + 1) = ((k + 1 : Nat) : Int) := by rw [IntKind.wrap_i64]; omega
          cases X' with
          | nil =>
            obtain rfl : r' = 0 := HR.out.q.len.symm
            have P5 := fun W h => lnPAll_any A9 c9 [] (by decide) W h
            have P6 := fun A5 c5 W h1 h2 => refSame_below A5 (some ⟨bx', ox', none⟩) c5 cx' [] [] (by decide) (by decide) W h1 h2
            rw [decide_eq_true rfl] at P6
            have HP := Lib.hid (And.intro (fun W h => P5 W h) (fun A5 c5 W h1 h2 => P6 A5 c5 W h1 h2))
            clear P5 P6
            go_upto_region 19 with (go_at_call 11; refine (lnPPeek_nil A9 c9 _).mono ?_; rintro e w2 ⟨rfl, hb⟩; have HR2 := Lib.hid (HR.out.keep (hb.alloc hb.size (.cells #[.int .u64 0, .int .u64 0] 29))); clear hb q8)
            generalize w2.alloc (.cells #[.int .u64 0, .int .u64 0] 29) = W3 at *
            generalize w2.heap.size = g17 at *
            clear w2
            have hkS : ∀ w1 w2, Below w1.heap.size w1 w2 → (PlayR w w1 g7 g8 A1 n c1 L A9 0 c9 [] bx' ox' 0 cx' [] ∧ w1.cell? ⟨g8, 0, none⟩ = some (.slice A9 0 c9)) → (PlayR w w2 g7 g8 A1 n c1 L A9 0 c9 [] bx' ox' 0 cx' [] ∧ w2.cell? ⟨g8, 0, none⟩ = some (.slice A9 0 c9)) := fun w1 w2 hb h => ⟨h.1.keep hb, (h.1.keep hb).q.cell.cell0⟩
            have HST : Hid (PlayR w W3.drew g7 g8 A1 n c1 L A9 0 c9 [] bx' ox' 0 cx' [] ∧ W3.drew.cell? ⟨g8, 0, none⟩ = some (.slice A9 0 c9)) := Lib.hid ⟨HR2.out.drew, HR2.out.drew.q.cell.cell0⟩
            refine wp_region_noPanic ?_
            refine wp_region_held_drew (S := fun w' => PlayR w w' g7 g8 A1 n c1 L A9 0 c9 [] bx' ox' 0 cx' [] ∧ w'.cell? ⟨g8, 0, none⟩ = some (.slice A9 0 c9)) (by kernel_rfl) (HST.out) (fun hHeld => ?_)
            (refine wpAnyH_take (i := 0) (v := ?_) rfl (by kernel_rfl) (by kernel_rfl) (by kernel_rfl) (fun _ _ _ h => h) (Or.inl ⟨by rfl, ?_⟩) hHeld ?_; rotate_left; focus (intro w hSw; (try dsimp only at hSw); go_simp; (try with_reducible rfl)))
            try simp only [Act.put, List.getElem_toArray, List.getElem_cons_succ, List.getElem_cons_zero, List.setIfInBounds_toArray, List.set_cons_zero, List.set_cons_succ]
            (refine wpAnyH_take (i := 2) (v := ?_) rfl (by kernel_rfl) (by kernel_rfl) (by kernel_rfl) (fun _ _ _ h => h) (Or.inl ⟨by rfl, ?_⟩) hHeld ?_; rotate_left; focus (intro w hSw; (try dsimp only at hSw); go_simp; (try with_reducible rfl)))
            try simp only [Act.put, List.getElem_toArray, List.getElem_cons_succ, List.getElem_cons_zero, List.setIfInBounds_toArray, List.set_cons_zero, List.set_cons_succ]
            (refine wpAnyH_take (i := 3) (v := ?_) rfl (by kernel_rfl) (by kernel_rfl) (by kernel_rfl) (fun _ _ _ h => h) (Or.inl ⟨by rfl, ?_⟩) hHeld ?_; rotate_left; focus (intro w hSw; (try dsimp only at hSw); go_simp; (try with_reducible rfl)))
            try simp only [Act.put, List.getElem_toArray, List.getElem_cons_succ, List.getElem_cons_zero, List.setIfInBounds_toArray, List.set_cons_zero, List.set_cons_succ]
            (refine wpAnyH_ready (rs := [1]) (by kernel_rfl) (by simp) ?_; refine AllReadyH.cons rfl (fun K hK => ?_) AllReadyH.nil; go_simp; (first | (go_at_call 12; refine (C5.out A9 0 c9 _).mono ?_; rintro e w' ⟨rfl, hb⟩) | (go_at_call 14; refine (HP.out.1 _ hHeld.1.q.parts.2.2.2).mono ?_; rintro e w' ⟨v, rfl, hv, -, hb⟩; obtain ⟨A5, c5, hv5, hl5⟩ := hv.form; subst hv5) | (go_at_call 13; refine (HP.out.2 A5 c5 _ hl5 hHeld.1.xs.2.2.1).mono ?_; rintro e w' ⟨rfl, hb⟩; have HS3 := Lib.hid (hHeld.1.keep hb))); (try go_wp2_with fail); refine hK.out _ _ ?_ (fun hHeld' => ?_); (focus (exact hkS _ _ hb hHeld)); clear hK K; replace hHeld := hHeld'; clear hHeld')
            try simp only [Act.put, List.getElem_toArray, List.getElem_cons_succ, List.getElem_cons_zero, List.setIfInBounds_toArray, List.set_cons_zero, List.set_cons_succ]
            (refine wpAnyH_take (i := 4) (v := ?_) rfl (by kernel_rfl) (by kernel_rfl) (by kernel_rfl) (fun _ _ _ h => h) (Or.inl ⟨by rfl, ?_⟩) hHeld ?_; rotate_left; focus (intro w hSw; (try dsimp only at hSw); go_simp; (try with_reducible rfl)))
            try simp only [Act.put, List.getElem_toArray, List.getElem_cons_succ, List.getElem_cons_zero, List.setIfInBounds_toArray, List.set_cons_zero, List.set_cons_succ]
            (refine wpAnyH_take (i := 5) (v := ?_) rfl (by kernel_rfl) (by kernel_rfl) (by kernel_rfl) (fun _ _ _ h => h) (Or.inl ⟨by rfl, ?_⟩) hHeld ?_; rotate_left; focus (intro w hSw; (try dsimp only at hSw); go_simp; (try with_reducible rfl)))
            try simp only [Act.put, List.getElem_toArray, List.getElem_cons_succ, List.getElem_cons_zero, List.setIfInBounds_toArray, List.set_cons_zero, List.set_cons_succ]
            first | (refine wpAnyH_take (i := 6) rfl (by kernel_rfl) (by kernel_rfl) (by kernel_rfl) (fun _ _ _ h => h) (Or.inr ⟨by rfl, rfl⟩) hHeld ?_) | (refine wpAnyH_take (i := 6) (v := ?_) rfl (by kernel_rfl) (by kernel_rfl) (by kernel_rfl) (fun _ _ _ h => h) (Or.inl ⟨by rfl, ?_⟩) hHeld ?_; rotate_left; focus (intro w hSw; (try dsimp only at hSw); go_simp; (try with_reducible rfl)))
            try simp only [Act.put, List.getElem_toArray, List.getElem_cons_succ, List.getElem_cons_zero, List.setIfInBounds_toArray, List.set_cons_zero, List.set_cons_succ]
            first | (refine wpAnyH_take (i := 8) rfl (by kernel_rfl) (by kernel_rfl) (by kernel_rfl) (fun _ _ _ h => h) (Or.inr ⟨by rfl, rfl⟩) hHeld ?_) | (refine wpAnyH_take (i := 8) (v := ?_) rfl (by kernel_rfl) (by kernel_rfl) (by kernel_rfl) (fun _ _ _ h => h) (Or.inl ⟨by rfl, ?_⟩) hHeld ?_; rotate_left; focus (intro w hSw; (try dsimp only at hSw); go_simp; (try with_reducible rfl)))
            try simp only [Act.put, List.getElem_toArray, List.getElem_cons_succ, List.getElem_cons_zero, List.setIfInBounds_toArray, List.set_cons_zero, List.set_cons_succ]
            first | (refine wpAnyH_take (i := 7) rfl (by kernel_rfl) (by kernel_rfl) (by kernel_rfl) (fun _ _ _ h => h) (Or.inr ⟨by rfl, rfl⟩) hHeld ?_) | (refine wpAnyH_ready (rs := [7]) (by kernel_rfl) (by simp) ?_; refine AllReadyH.cons rfl (fun K hK => ?_) AllReadyH.nil; go_simp; (first | (go_at_call 12; refine (C5.out A9 0 c9 _).mono ?_; rintro e w' ⟨rfl, hb⟩) | (go_at_call 14; refine (HP.out.1 _ hHeld.1.q.parts.2.2.2).mono ?_; rintro e w' ⟨v, rfl, hv, -, hb⟩; obtain ⟨A5, c5, hv5, hl5⟩ := hv.form; subst hv5) | (go_at_call 13; refine (HP.out.2 A5 c5 _ hl5 hHeld.1.xs.2.2.1).mono ?_; rintro e w' ⟨rfl, hb⟩; have HS3 := Lib.hid (hHeld.1.keep hb))); (try go_wp2_with fail); refine hK.out _ _ ?_ (fun hHeld' => ?_); (focus (exact hkS _ _ hb hHeld)); clear hK K; replace hHeld := hHeld'; clear hHeld')
            try simp only [Act.put, List.getElem_toArray, List.getElem_cons_succ, List.getElem_cons_zero, List.setIfInBounds_toArray, List.set_cons_zero, List.set_cons_succ]
            first | (refine wpAnyH_take (i := 9) rfl (by kernel_rfl) (by kernel_rfl) (by kernel_rfl) (fun _ _ _ h => h) (Or.inr ⟨by rfl, rfl⟩) hHeld ?_) | (refine wpAnyH_ready (rs := [9]) (by kernel_rfl) (by simp) ?_; refine AllReadyH.cons rfl (fun K hK => ?_) AllReadyH.nil; go_simp; (first | (go_at_call 12; refine (C5.out A9 0 c9 _).mono ?_; rintro e w' ⟨rfl, hb⟩) | (go_at_call 14; refine (HP.out.1 _ hHeld.1.q.parts.2.2.2).mono ?_; rintro e w' ⟨v, rfl, hv, -, hb⟩; obtain ⟨A5, c5, hv5, hl5⟩ := hv.form; subst hv5) | (go_at_call 13; refine (HP.out.2 A5 c5 _ hl5 hHeld.1.xs.2.2.1).mono ?_; rintro e w' ⟨rfl, hb⟩; have HS3 := Lib.hid (hHeld.1.keep hb))); (try go_wp2_with fail); refine hK.out _ _ ?_ (fun hHeld' => ?_); (focus (exact hkS _ _ hb hHeld)); clear hK K; replace hHeld := hHeld'; clear hHeld')
            try simp only [Act.put, List.getElem_toArray, List.getElem_cons_succ, List.getElem_cons_zero, List.setIfInBounds_toArray, List.set_cons_zero, List.set_cons_succ]
            first | (refine wpAnyH_take (i := 10) rfl (by kernel_rfl) (by kernel_rfl) (by kernel_rfl) (fun _ _ _ h => h) (Or.inr ⟨by rfl, rfl⟩) hHeld ?_) | (refine wpAnyH_take (i := 10) (v := ?_) rfl (by kernel_rfl) (by kernel_rfl) (by kernel_rfl) (fun _ _ _ h => h) (Or.inl ⟨by rfl, ?_⟩) hHeld ?_; rotate_left; focus (intro w hSw; (try dsimp only at hSw); go_simp; (try with_reducible rfl)))
            try simp only [Act.put, List.getElem_toArray, List.getElem_cons_succ, List.getElem_cons_zero, List.setIfInBounds_toArray, List.set_cons_zero, List.set_cons_succ]
            (refine wpAnyH_take (i := 11) (v := ?_) rfl (by kernel_rfl) (by kernel_rfl) (by kernel_rfl) (fun _ _ _ h => h) (Or.inl ⟨by rfl, ?_⟩) hHeld ?_; rotate_left; focus (intro w hSw; (try dsimp only at hSw); go_simp; (try with_reducible rfl)))
            try simp only [Act.put, List.getElem_toArray, List.getElem_cons_succ, List.getElem_cons_zero, List.setIfInBounds_toArray, List.set_cons_zero, List.set_cons_succ]
            (refine wpAnyH_take (i := 12) (v := ?_) rfl (by kernel_rfl) (by kernel_rfl) (by kernel_rfl) (fun _ _ _ h => h) (Or.inl ⟨by rfl, ?_⟩) hHeld ?_; rotate_left; focus (intro w hSw; (try dsimp only at hSw); go_simp; (try with_reducible rfl)))
            try simp only [Act.put, List.getElem_toArray, List.getElem_cons_succ, List.getElem_cons_zero, List.setIfInBounds_toArray, List.set_cons_zero, List.set_cons_succ]
            first | (refine wpAnyH_take (i := 13) rfl (by kernel_rfl) (by kernel_rfl) (by kernel_rfl) (fun _ _ _ h => h) (Or.inr ⟨by rfl, rfl⟩) hHeld ?_) | (refine wpAnyH_take (i := 13) (v := ?_) rfl (by kernel_rfl) (by kernel_rfl) (by kernel_rfl) (fun _ _ _ h => h) (Or.inl ⟨by rfl, ?_⟩) hHeld ?_; rotate_left; focus (intro w hSw; (try dsimp only at hSw); go_simp; (try with_reducible rfl)))
            try simp only [Act.put, List.getElem_toArray, List.getElem_cons_succ, List.getElem_cons_zero, List.setIfInBounds_toArray, List.set_cons_zero, List.set_cons_succ]
            first | (refine wpAnyH_take (i := 14) rfl (by kernel_rfl) (by kernel_rfl) (by kernel_rfl) (fun _ _ _ h => h) (Or.inr ⟨by rfl, rfl⟩) hHeld ?_) | (refine wpAnyH_take (i := 14) (v := ?_) rfl (by kernel_rfl) (by kernel_rfl) (by kernel_rfl) (fun _ _ _ h => h) (Or.inl ⟨by rfl, ?_⟩) hHeld ?_; rotate_left; focus (intro w hSw; (try dsimp only at hSw); go_simp; (try with_reducible rfl)))
            try simp only [Act.put, List.getElem_toArray, List.getElem_cons_succ, List.getElem_cons_zero, List.setIfInBounds_toArray, List.set_cons_zero, List.set_cons_succ]
            first | (refine wpAnyH_take (i := 15) rfl (by kernel_rfl) (by kernel_rfl) (by kernel_rfl) (fun _ _ _ h => h) (Or.inr ⟨by rfl, rfl⟩) hHeld ?_) | (refine wpAnyH_take (i := 15) (v := ?_) rfl (by kernel_rfl) (by kernel_rfl) (by kernel_rfl) (fun _ _ _ h => h) (Or.inl ⟨by rfl, ?_⟩) hHeld ?_; rotate_left; focus (intro w hSw; (try dsimp only at hSw); go_simp; (try with_reducible rfl)))
            try simp only [Act.put, List.getElem_toArray, List.getElem_cons_succ, List.getElem_cons_zero, List.setIfInBounds_toArray, List.set_cons_zero, List.set_cons_succ]
            first | (refine wpAnyH_take (i := 16) rfl (by kernel_rfl) (by kernel_rfl) (by kernel_rfl) (fun _ _ _ h => h) (Or.inr ⟨by rfl, rfl⟩) hHeld ?_) | (refine wpAnyH_take (i := 16) (v := ?_) rfl (by kernel_rfl) (by kernel_rfl) (by kernel_rfl) (fun _ _ _ h => h) (Or.inl ⟨by rfl, ?_⟩) hHeld ?_; rotate_left; focus (intro w hSw; (try dsimp only at hSw); go_simp; (try with_reducible rfl)))
            try simp only [Act.put, List.getElem_toArray, List.getElem_cons_succ, List.getElem_cons_zero, List.setIfInBounds_toArray, List.set_cons_zero, List.set_cons_succ]
            first | (refine wpAnyH_take (i := 17) rfl (by kernel_rfl) (by kernel_rfl) (by kernel_rfl) (fun _ _ _ h => h) (Or.inr ⟨by rfl, rfl⟩) hHeld ?_) | (refine wpAnyH_take (i := 17) (v := ?_) rfl (by kernel_rfl) (by kernel_rfl) (by kernel_rfl) (fun _ _ _ h => h) (Or.inl ⟨by rfl, ?_⟩) hHeld ?_; rotate_left; focus (intro w hSw; (try dsimp only at hSw); go_simp; (try with_reducible rfl)))
            try simp only [Act.put, List.getElem_toArray, List.getElem_cons_succ, List.getElem_cons_zero, List.setIfInBounds_toArray, List.set_cons_zero, List.set_cons_succ]
            (refine wpAnyH_take (i := 18) (v := ?_) rfl (by kernel_rfl) (by kernel_rfl) (by kernel_rfl) (fun _ _ _ h => h) (Or.inl ⟨by rfl, ?_⟩) hHeld ?_; rotate_left; focus (intro w hSw; (try dsimp only at hSw); go_simp; (try with_reducible rfl)))
            try simp only [Act.put, List.getElem_toArray, List.getElem_cons_succ, List.getElem_cons_zero, List.setIfInBounds_toArray, List.set_cons_zero, List.set_cons_succ]
            (refine wpAnyH_take (i := 19) (v := ?_) rfl (by kernel_rfl) (by kernel_rfl) (by kernel_rfl) (fun _ _ _ h => h) (Or.inl ⟨by rfl, ?_⟩) hHeld ?_; rotate_left; focus (intro w hSw; (try dsimp only at hSw); go_simp; (try with_reducible rfl)))
            try simp only [Act.put, List.getElem_toArray, List.getElem_cons_succ, List.getElem_cons_zero, List.setIfInBounds_toArray, List.set_cons_zero, List.set_cons_succ]
            first | (refine wpAnyH_take (i := 20) rfl (by kernel_rfl) (by kernel_rfl) (by kernel_rfl) (fun _ _ _ h => h) (Or.inr ⟨by rfl, rfl⟩) hHeld ?_) | (refine wpAnyH_take (i := 20) (v := ?_) rfl (by kernel_rfl) (by kernel_rfl) (by kernel_rfl) (fun _ _ _ h => h) (Or.inl ⟨by rfl, ?_⟩) hHeld ?_; rotate_left; focus (intro w hSw; (try dsimp only at hSw); go_simp; (try with_reducible rfl)))
            try simp only [Act.put, List.getElem_toArray, List.getElem_cons_succ, List.getElem_cons_zero, List.setIfInBounds_toArray, List.set_cons_zero, List.set_cons_succ]
            first | (refine wpAnyH_take (i := 21) rfl (by kernel_rfl) (by kernel_rfl) (by kernel_rfl) (fun _ _ _ h => h) (Or.inr ⟨by rfl, rfl⟩) hHeld ?_) | (refine wpAnyH_take (i := 21) (v := ?_) rfl (by kernel_rfl) (by kernel_rfl) (by kernel_rfl) (fun _ _ _ h => h) (Or.inl ⟨by rfl, ?_⟩) hHeld ?_; rotate_left; focus (intro w hSw; (try dsimp only at hSw); go_simp; (try with_reducible rfl)))
            try simp only [Act.put, List.getElem_toArray, List.getElem_cons_succ, List.getElem_cons_zero, List.setIfInBounds_toArray, List.set_cons_zero, List.set_cons_succ]
            first | (refine wpAnyH_take (i := 22) rfl (by kernel_rfl) (by kernel_rfl) (by kernel_rfl) (fun _ _ _ h => h) (Or.inr ⟨by rfl, rfl⟩) hHeld ?_) | (refine wpAnyH_take (i := 22) (v := ?_) rfl (by kernel_rfl) (by kernel_rfl) (by kernel_rfl) (fun _ _ _ h => h) (Or.inl ⟨by rfl, ?_⟩) hHeld ?_; rotate_left; focus (intro w hSw; (try dsimp only at hSw); go_simp; (try with_reducible rfl)))
            try simp only [Act.put, List.getElem_toArray, List.getElem_cons_succ, List.getElem_cons_zero, List.setIfInBounds_toArray, List.set_cons_zero, List.set_cons_succ]
            first | (refine wpAnyH_take (i := 23) rfl (by kernel_rfl) (by kernel_rfl) (by kernel_rfl) (fun _ _ _ h => h) (Or.inr ⟨by rfl, rfl⟩) hHeld ?_) | (refine wpAnyH_take (i := 23) (v := ?_) rfl (by kernel_rfl) (by kernel_rfl) (by kernel_rfl) (fun _ _ _ h => h) (Or.inl ⟨by rfl, ?_⟩) hHeld ?_; rotate_left; focus (intro w hSw; (try dsimp only at hSw); go_simp; (try with_reducible rfl)))
            try simp only [Act.put, List.getElem_toArray, List.getElem_cons_succ, List.getElem_cons_zero, List.setIfInBounds_toArray, List.set_cons_zero, List.set_cons_succ]
            first | (refine wpAnyH_take (i := 24) rfl (by kernel_rfl) (by kernel_rfl) (by kernel_rfl) (fun _ _ _ h => h) (Or.inr ⟨by rfl, rfl⟩) hHeld ?_) | (refine wpAnyH_take (i := 24) (v := ?_) rfl (by kernel_rfl) (by kernel_rfl) (by kernel_rfl) (fun _ _ _ h => h) (Or.inl ⟨by rfl, ?_⟩) hHeld ?_; rotate_left; focus (intro w hSw; (try dsimp only at hSw); go_simp; (try with_reducible rfl)))
            try simp only [Act.put, List.getElem_toArray, List.getElem_cons_succ, List.getElem_cons_zero, List.setIfInBounds_toArray, List.set_cons_zero, List.set_cons_succ]
            first | (refine wpAnyH_take (i := 25) rfl (by kernel_rfl) (by kernel_rfl) (by kernel_rfl) (fun _ _ _ h => h) (Or.inr ⟨by rfl, rfl⟩) hHeld ?_) | (refine wpAnyH_take (i := 25) (v := ?_) rfl (by kernel_rfl) (by kernel_rfl) (by kernel_rfl) (fun _ _ _ h => h) (Or.inl ⟨by rfl, ?_⟩) hHeld ?_; rotate_left; focus (intro w hSw; (try dsimp only at hSw); go_simp; (try with_reducible rfl)))
            try simp only [Act.put, List.getElem_toArray, List.getElem_cons_succ, List.getElem_cons_zero, List.setIfInBounds_toArray, List.set_cons_zero, List.set_cons_succ]
            first | (refine wpAnyH_take (i := 26) rfl (by kernel_rfl) (by kernel_rfl) (by kernel_rfl) (fun _ _ _ h => h) (Or.inr ⟨by rfl, rfl⟩) hHeld ?_) | (refine wpAnyH_take (i := 26) (v := ?_) rfl (by kernel_rfl) (by kernel_rfl) (by kernel_rfl) (fun _ _ _ h => h) (Or.inl ⟨by rfl, ?_⟩) hHeld ?_; rotate_left; focus (intro w hSw; (try dsimp only at hSw); go_simp; (try with_reducible rfl)))
            try simp only [Act.put, List.getElem_toArray, List.getElem_cons_succ, List.getElem_cons_zero, List.setIfInBounds_toArray, List.set_cons_zero, List.set_cons_succ]
            first | (refine wpAnyH_take (i := 27) rfl (by kernel_rfl) (by kernel_rfl) (by kernel_rfl) (fun _ _ _ h => h) (Or.inr ⟨by rfl, rfl⟩) hHeld ?_) | (refine wpAnyH_take (i := 27) (v := ?_) rfl (by kernel_rfl) (by kernel_rfl) (by kernel_rfl) (fun _ _ _ h => h) (Or.inl ⟨by rfl, ?_⟩) hHeld ?_; rotate_left; focus (intro w hSw; (try dsimp only at hSw); go_simp; (try with_reducible rfl)))
            try simp only [Act.put, List.getElem_toArray, List.getElem_cons_succ, List.getElem_cons_zero, List.setIfInBounds_toArray, List.set_cons_zero, List.set_cons_succ]
            (refine wpAnyH_take (i := 28) (v := ?_) rfl (by kernel_rfl) (by kernel_rfl) (by kernel_rfl) (fun _ _ _ h => h) (Or.inl ⟨by rfl, ?_⟩) hHeld ?_; rotate_left; focus (intro w hSw; (try dsimp only at hSw); go_simp; (try with_reducible rfl)))
            try simp only [Act.put, List.getElem_toArray, List.getElem_cons_succ, List.getElem_cons_zero, List.setIfInBounds_toArray, List.set_cons_zero, List.set_cons_succ]
            refine wpAnyH_done (by kernel_rfl) ?_ _
            refine NoPanic.normal ?_
            clear HST hkS HP
            go_wp2_with fail
            go_roundw
            case rel => exact ⟨k + 1, A9, 0, c9, [], bx', ox', cx', rfl, by go_num, by omega, by omega, HS3.out⟩
            case measure => simp [intOf]; omega
          | cons x0 Y =>
            obtain ⟨r1, rfl⟩ : ∃ r0, r' = r0 + 1 := ⟨Y.length, HR.out.q.len.symm⟩
            have hY : (x0 :: Y).length = r1 + 1 := HR.out.q.len
            have P5 := fun W h => lnPAll_any A9 c9 (x0 :: Y) (by rw [hY]; omega) W h
            have P6 := fun A5 c5 W h1 h2 => refSame_below A5 (some ⟨bx', ox', none⟩) c5 cx' (x0 :: Y) (x0 :: Y) (by rw [hY]; omega) (by rw [hY]; omega) W h1 h2
            have P7 := fun W h => lnPPeek_some A9 c9 (x0 :: Y) (by rw [hY]; omega) (by rw [hY]; omega) x0 rfl W h
            rw [decide_eq_true rfl] at P6
            rw [hY] at P5 P6 P7
            have HP := Lib.hid (And.intro (fun W h => P5 W h) (fun A5 c5 W h1 h2 => P6 A5 c5 W h1 h2))
            have HP7 := Lib.hid (fun W h => P7 W h)
            clear P5 P6 P7
            go_upto_region 19 with (go_at_call 11; refine (HP7.out _ HR.out.q.parts.2.2.2).mono ?_; rintro e w2 ⟨rfl, hb⟩; have HR2 := Lib.hid (And.intro (HR.out.keep (hb.alloc hb.size (.cells #[.int .u64 (x0.a : Nat), .int .u64 (x0.b : Nat)] 29))) (Cells.new w2 #[.int .u64 (x0.a : Nat), .int .u64 (x0.b : Nat)] 29)); clear hb q8)
            generalize w2.alloc (.cells #[.int .u64 (x0.a : Nat), .int .u64 (x0.b : Nat)] 29) = W3 at *
            generalize w2.heap.size = g17 at *
            clear w2
            have hkS : ∀ w1 w2, Below w1.heap.size w1 w2 → (PlayR w w1 g7 g8 A1 n c1 L A9 (r1 + 1) c9 (x0 :: Y) bx' ox' (r1 + 1) cx' (x0 :: Y) ∧ w1.cell? ⟨g8, 0, none⟩ = some (.slice A9 (r1 + 1) c9) ∧ w1.cell? ⟨g17, 0, none⟩ = some (.int .u64 (x0.a : Nat)) ∧ w1.cell? ⟨g17, 1, none⟩ = some (.int .u64 (x0.b : Nat)) ∧ w1.cell? ⟨bx', ox', none⟩ = some (.int .u64 (x0.a : Nat)) ∧ w1.cell? ⟨bx', ox' + 1, none⟩ = some (.int .u64 (x0.b : Nat))) → (PlayR w w2 g7 g8 A1 n c1 L A9 (r1 + 1) c9 (x0 :: Y) bx' ox' (r1 + 1) cx' (x0 :: Y) ∧ w2.cell? ⟨g8, 0, none⟩ = some (.slice A9 (r1 + 1) c9) ∧ w2.cell? ⟨g17, 0, none⟩ = some (.int .u64 (x0.a : Nat)) ∧ w2.cell? ⟨g17, 1, none⟩ = some (.int .u64 (x0.b : Nat)) ∧ w2.cell? ⟨bx', ox', none⟩ = some (.int .u64 (x0.a : Nat)) ∧ w2.cell? ⟨bx', ox' + 1, none⟩ = some (.int .u64 (x0.b : Nat))) := fun w1 w2 hb h => ⟨h.1.keep hb, (h.1.keep hb).q.cell.cell0, cell_keep hb h.2.2.1, cell_keep hb h.2.2.2.1, cell_keep hb h.2.2.2.2.1, cell_keep hb h.2.2.2.2.2⟩
            have HST : Hid (PlayR w W3.drew g7 g8 A1 n c1 L A9 (r1 + 1) c9 (x0 :: Y) bx' ox' (r1 + 1) cx' (x0 :: Y) ∧ W3.drew.cell? ⟨g8, 0, none⟩ = some (.slice A9 (r1 + 1) c9) ∧ W3.drew.cell? ⟨g17, 0, none⟩ = some (.int .u64 (x0.a : Nat)) ∧ W3.drew.cell? ⟨g17, 1, none⟩ = some (.int .u64 (x0.b : Nat)) ∧ W3.drew.cell? ⟨bx', ox', none⟩ = some (.int .u64 (x0.a : Nat)) ∧ W3.drew.cell? ⟨bx', ox' + 1, none⟩ = some (.int .u64 (x0.b : Nat))) := Lib.hid (headS HR2.out.1 HR2.out.2)
            have HQ : ∀ W, (binOp .neq 29 (.agg #[.int .u64 (x0.a : Nat), .int .u64 (x0.b : Nat)]) (.agg #[.int .u64 (x0.a : Nat), .int .u64 (x0.b : Nat)])).run Try.prog W = .ok (.bool false) W := fun W => by rw [neq_pr W x0 x0, decide_eq_true rfl]; rfl
            have t1 : decide ((0 : Int) < (r1 : Int) + 1) = true := decide_eq_true (by omega)
            have t2 : (0 : Int) < (r1 : Int) + 1 := by omega
            refine wp_region_noPanic ?_
            refine wp_region_held_drew (S := fun w' => PlayR w w' g7 g8 A1 n c1 L A9 (r1 + 1) c9 (List.cons x0 Y) bx' ox' (r1 + 1) cx' (List.cons x0 Y) ∧ w'.cell? ⟨g8, 0, none⟩ = some (.slice A9 (r1 + 1) c9) ∧ w'.cell? ⟨g17, 0, none⟩ = some (.int .u64 (x0.a : Nat)) ∧ w'.cell? ⟨g17, 1, none⟩ = some (.int .u64 (x0.b : Nat)) ∧ w'.cell? ⟨bx', ox', none⟩ = some (.int .u64 (x0.a : Nat)) ∧ w'.cell? ⟨bx', ox' + 1, none⟩ = some (.int .u64 (x0.b : Nat))) (by kernel_rfl) (HST.out) (fun hHeld => ?_)
            (refine wpAnyH_take (i := 0) (v := ?_) rfl (by kernel_rfl) (by kernel_rfl) (by kernel_rfl) (fun _ _ _ h => h) (Or.inl ⟨by rfl, ?_⟩) hHeld ?_; rotate_left; focus (intro w hSw; (try dsimp only at hSw); go_simp; (try with_reducible rfl)))
            try simp only [Act.put, List.getElem_toArray, List.getElem_cons_succ, List.getElem_cons_zero, List.setIfInBounds_toArray, List.set_cons_zero, List.set_cons_succ]
            (refine wpAnyH_take (i := 2) (v := ?_) rfl (by kernel_rfl) (by kernel_rfl) (by kernel_rfl) (fun _ _ _ h => h) (Or.inl ⟨by rfl, ?_⟩) hHeld ?_; rotate_left; focus (intro w hSw; (try dsimp only at hSw); go_simp; (try with_reducible rfl)))
            try simp only [Act.put, List.getElem_toArray, List.getElem_cons_succ, List.getElem_cons_zero, List.setIfInBounds_toArray, List.set_cons_zero, List.set_cons_succ]
            (refine wpAnyH_take (i := 3) (v := ?_) rfl (by kernel_rfl) (by kernel_rfl) (by kernel_rfl) (fun _ _ _ h => h) (Or.inl ⟨by rfl, ?_⟩) hHeld ?_; rotate_left; focus (intro w hSw; (try dsimp only at hSw); go_simp; (try with_reducible rfl)))
            try simp only [Act.put, List.getElem_toArray, List.getElem_cons_succ, List.getElem_cons_zero, List.setIfInBounds_toArray, List.set_cons_zero, List.set_cons_succ]
            (refine wpAnyH_ready (rs := [1]) (by kernel_rfl) (by simp) ?_; refine AllReadyH.cons rfl (fun K hK => ?_) AllReadyH.nil; go_simp; (first | (go_at_call 12; refine (C5.out A9 (r1 + 1) c9 _).mono ?_; rintro e w' ⟨rfl, hb⟩) | (go_at_call 14; refine (HP.out.1 _ hHeld.1.q.parts.2.2.2).mono ?_; rintro e w' ⟨v, rfl, hv, -, hb⟩; obtain ⟨A5, c5, hv5, hl5⟩ := hv.form; subst hv5) | (go_at_call 13; refine (HP.out.2 A5 c5 _ hl5 hHeld.1.xs.2.2.1).mono ?_; rintro e w' ⟨rfl, hb⟩; have HS3 := Lib.hid (hHeld.1.keep hb))); (try go_wp2_with fail); refine hK.out _ _ ?_ (fun hHeld' => ?_); (focus (exact hkS _ _ hb hHeld)); clear hK K; replace hHeld := hHeld'; clear hHeld')
            try simp only [Act.put, List.getElem_toArray, List.getElem_cons_succ, List.getElem_cons_zero, List.setIfInBounds_toArray, List.set_cons_zero, List.set_cons_succ]
            (refine wpAnyH_take (i := 4) (v := ?_) rfl (by kernel_rfl) (by kernel_rfl) (by kernel_rfl) (fun _ _ _ h => h) (Or.inl ⟨by rfl, ?_⟩) hHeld ?_; rotate_left; focus (intro w hSw; (try dsimp only at hSw); go_simp; (try with_reducible rfl)))
            try simp only [Act.put, List.getElem_toArray, List.getElem_cons_succ, List.getElem_cons_zero, List.setIfInBounds_toArray, List.set_cons_zero, List.set_cons_succ]
            (refine wpAnyH_take (i := 5) (v := ?_) rfl (by kernel_rfl) (by kernel_rfl) (by kernel_rfl) (fun _ _ _ h => h) (Or.inl ⟨by rfl, ?_⟩) hHeld ?_; rotate_left; focus (intro w hSw; (try dsimp only at hSw); go_simp; (try with_reducible rfl)))
            try simp only [Act.put, List.getElem_toArray, List.getElem_cons_succ, List.getElem_cons_zero, List.setIfInBounds_toArray, List.set_cons_zero, List.set_cons_succ]
            first | (refine wpAnyH_take (i := 6) rfl (by kernel_rfl) (by kernel_rfl) (by kernel_rfl) (fun _ _ _ h => h) (Or.inr ⟨by rfl, rfl⟩) hHeld ?_) | (refine wpAnyH_take (i := 6) (v := ?_) rfl (by kernel_rfl) (by kernel_rfl) (by kernel_rfl) (fun _ _ _ h => h) (Or.inl ⟨by rfl, ?_⟩) hHeld ?_; rotate_left; focus (intro w hSw; (try dsimp only at hSw); go_simp; (try with_reducible rfl)))
            try simp only [Act.put, List.getElem_toArray, List.getElem_cons_succ, List.getElem_cons_zero, List.setIfInBounds_toArray, List.set_cons_zero, List.set_cons_succ]
            first | (refine wpAnyH_take (i := 8) rfl (by kernel_rfl) (by kernel_rfl) (by kernel_rfl) (fun _ _ _ h => h) (Or.inr ⟨by rfl, rfl⟩) hHeld ?_) | (refine wpAnyH_take (i := 8) (v := ?_) rfl (by kernel_rfl) (by kernel_rfl) (by kernel_rfl) (fun _ _ _ h => h) (Or.inl ⟨by rfl, ?_⟩) hHeld ?_; rotate_left; focus (intro w hSw; (try dsimp only at hSw); go_simp; (try with_reducible rfl)))
            try simp only [Act.put, List.getElem_toArray, List.getElem_cons_succ, List.getElem_cons_zero, List.setIfInBounds_toArray, List.set_cons_zero, List.set_cons_succ]
            first | (refine wpAnyH_take (i := 7) rfl (by kernel_rfl) (by kernel_rfl) (by kernel_rfl) (fun _ _ _ h => h) (Or.inr ⟨by rfl, rfl⟩) hHeld ?_) | (refine wpAnyH_ready (rs := [7]) (by kernel_rfl) (by simp) ?_; refine AllReadyH.cons rfl (fun K hK => ?_) AllReadyH.nil; go_simp; (first | (go_at_call 12; refine (C5.out A9 (r1 + 1) c9 _).mono ?_; rintro e w' ⟨rfl, hb⟩) | (go_at_call 14; refine (HP.out.1 _ hHeld.1.q.parts.2.2.2).mono ?_; rintro e w' ⟨v, rfl, hv, -, hb⟩; obtain ⟨A5, c5, hv5, hl5⟩ := hv.form; subst hv5) | (go_at_call 13; refine (HP.out.2 A5 c5 _ hl5 hHeld.1.xs.2.2.1).mono ?_; rintro e w' ⟨rfl, hb⟩; have HS3 := Lib.hid (hHeld.1.keep hb))); (try go_wp2_with fail); refine hK.out _ _ ?_ (fun hHeld' => ?_); (focus (exact hkS _ _ hb hHeld)); clear hK K; replace hHeld := hHeld'; clear hHeld')
            try simp only [Act.put, List.getElem_toArray, List.getElem_cons_succ, List.getElem_cons_zero, List.setIfInBounds_toArray, List.set_cons_zero, List.set_cons_succ]
            first | (refine wpAnyH_take (i := 9) rfl (by kernel_rfl) (by kernel_rfl) (by kernel_rfl) (fun _ _ _ h => h) (Or.inr ⟨by rfl, rfl⟩) hHeld ?_) | (refine wpAnyH_ready (rs := [9]) (by kernel_rfl) (by simp) ?_; refine AllReadyH.cons rfl (fun K hK => ?_) AllReadyH.nil; go_simp; (first | (go_at_call 12; refine (C5.out A9 (r1 + 1) c9 _).mono ?_; rintro e w' ⟨rfl, hb⟩) | (go_at_call 14; refine (HP.out.1 _ hHeld.1.q.parts.2.2.2).mono ?_; rintro e w' ⟨v, rfl, hv, -, hb⟩; obtain ⟨A5, c5, hv5, hl5⟩ := hv.form; subst hv5) | (go_at_call 13; refine (HP.out.2 A5 c5 _ hl5 hHeld.1.xs.2.2.1).mono ?_; rintro e w' ⟨rfl, hb⟩; have HS3 := Lib.hid (hHeld.1.keep hb))); (try go_wp2_with fail); refine hK.out _ _ ?_ (fun hHeld' => ?_); (focus (exact hkS _ _ hb hHeld)); clear hK K; replace hHeld := hHeld'; clear hHeld')
            try simp only [Act.put, List.getElem_toArray, List.getElem_cons_succ, List.getElem_cons_zero, List.setIfInBounds_toArray, List.set_cons_zero, List.set_cons_succ]
            first | (refine wpAnyH_take (i := 10) rfl (by kernel_rfl) (by kernel_rfl) (by kernel_rfl) (fun _ _ _ h => h) (Or.inr ⟨by rfl, rfl⟩) hHeld ?_) | (refine wpAnyH_take (i := 10) (v := ?_) rfl (by kernel_rfl) (by kernel_rfl) (by kernel_rfl) (fun _ _ _ h => h) (Or.inl ⟨by rfl, ?_⟩) hHeld ?_; rotate_left; focus (intro w hSw; (try dsimp only at hSw); go_simp; (try with_reducible rfl)))
            try simp only [Act.put, List.getElem_toArray, List.getElem_cons_succ, List.getElem_cons_zero, List.setIfInBounds_toArray, List.set_cons_zero, List.set_cons_succ]
            (refine wpAnyH_take (i := 11) (v := ?_) rfl (by kernel_rfl) (by kernel_rfl) (by kernel_rfl) (fun _ _ _ h => h) (Or.inl ⟨by rfl, ?_⟩) hHeld ?_; rotate_left; focus (intro w hSw; (try dsimp only at hSw); go_simp; (try with_reducible rfl)))
            try simp only [Act.put, List.getElem_toArray, List.getElem_cons_succ, List.getElem_cons_zero, List.setIfInBounds_toArray, List.set_cons_zero, List.set_cons_succ]
            (refine wpAnyH_take (i := 12) (v := ?_) rfl (by kernel_rfl) (by kernel_rfl) (by kernel_rfl) (fun _ _ _ h => h) (Or.inl ⟨by rfl, ?_⟩) hHeld ?_; rotate_left; focus (intro w hSw; (try dsimp only at hSw); go_simp; (try with_reducible rfl)))
            try simp only [Act.put, List.getElem_toArray, List.getElem_cons_succ, List.getElem_cons_zero, List.setIfInBounds_toArray, List.set_cons_zero, List.set_cons_succ]
            first | (refine wpAnyH_take (i := 13) rfl (by kernel_rfl) (by kernel_rfl) (by kernel_rfl) (fun _ _ _ h => h) (Or.inr ⟨by rfl, rfl⟩) hHeld ?_) | (refine wpAnyH_take (i := 13) (v := ?_) rfl (by kernel_rfl) (by kernel_rfl) (by kernel_rfl) (fun _ _ _ h => h) (Or.inl ⟨by rfl, ?_⟩) hHeld ?_; rotate_left; focus (intro w hSw; (try dsimp only at hSw); go_simp; (try with_reducible rfl)))
            try simp only [Act.put, List.getElem_toArray, List.getElem_cons_succ, List.getElem_cons_zero, List.setIfInBounds_toArray, List.set_cons_zero, List.set_cons_succ]
            first | (refine wpAnyH_take (i := 14) rfl (by kernel_rfl) (by kernel_rfl) (by kernel_rfl) (fun _ _ _ h => h) (Or.inr ⟨by rfl, rfl⟩) hHeld ?_) | (refine wpAnyH_take (i := 14) (v := ?_) rfl (by kernel_rfl) (by kernel_rfl) (by kernel_rfl) (fun _ _ _ h => h) (Or.inl ⟨by rfl, ?_⟩) hHeld ?_; rotate_left; focus (intro w hSw; (try dsimp only at hSw); go_simp; (try with_reducible rfl)))
            try simp only [Act.put, List.getElem_toArray, List.getElem_cons_succ, List.getElem_cons_zero, List.setIfInBounds_toArray, List.set_cons_zero, List.set_cons_succ]
            first | (refine wpAnyH_take (i := 15) rfl (by kernel_rfl) (by kernel_rfl) (by kernel_rfl) (fun _ _ _ h => h) (Or.inr ⟨by rfl, rfl⟩) hHeld ?_) | (refine wpAnyH_take (i := 15) (v := ?_) rfl (by kernel_rfl) (by kernel_rfl) (by kernel_rfl) (fun _ _ _ h => h) (Or.inl ⟨by rfl, ?_⟩) hHeld ?_; rotate_left; focus (intro w hSw; (try dsimp only at hSw); go_simp; (try with_reducible rfl)))
            try simp only [Act.put, List.getElem_toArray, List.getElem_cons_succ, List.getElem_cons_zero, List.setIfInBounds_toArray, List.set_cons_zero, List.set_cons_succ]
            first | (refine wpAnyH_take (i := 16) rfl (by kernel_rfl) (by kernel_rfl) (by kernel_rfl) (fun _ _ _ h => h) (Or.inr ⟨by rfl, rfl⟩) hHeld ?_) | (refine wpAnyH_take (i := 16) (v := ?_) rfl (by kernel_rfl) (by kernel_rfl) (by kernel_rfl) (fun _ _ _ h => h) (Or.inl ⟨by rfl, ?_⟩) hHeld ?_; rotate_left; focus (intro w hSw; (try dsimp only at hSw); go_simp; (try with_reducible rfl)))
            try simp only [Act.put, List.getElem_toArray, List.getElem_cons_succ, List.getElem_cons_zero, List.setIfInBounds_toArray, List.set_cons_zero, List.set_cons_succ]
            first | (refine wpAnyH_take (i := 17) rfl (by kernel_rfl) (by kernel_rfl) (by kernel_rfl) (fun _ _ _ h => h) (Or.inr ⟨by rfl, rfl⟩) hHeld ?_) | (refine wpAnyH_take (i := 17) (v := ?_) rfl (by kernel_rfl) (by kernel_rfl) (by kernel_rfl) (fun _ _ _ h => h) (Or.inl ⟨by rfl, ?_⟩) hHeld ?_; rotate_left; focus (intro w hSw; (try dsimp only at hSw); go_simp; (try with_reducible rfl)))
            try simp only [Act.put, List.getElem_toArray, List.getElem_cons_succ, List.getElem_cons_zero, List.setIfInBounds_toArray, List.set_cons_zero, List.set_cons_succ]
            (refine wpAnyH_take (i := 18) (v := ?_) rfl (by kernel_rfl) (by kernel_rfl) (by kernel_rfl) (fun _ _ _ h => h) (Or.inl ⟨by rfl, ?_⟩) hHeld ?_; rotate_left; focus (intro w hSw; (try dsimp only at hSw); go_simp; (try with_reducible rfl)))
            try simp only [Act.put, List.getElem_toArray, List.getElem_cons_succ, List.getElem_cons_zero, List.setIfInBounds_toArray, List.set_cons_zero, List.set_cons_succ]
            (refine wpAnyH_take (i := 19) (v := ?_) rfl (by kernel_rfl) (by kernel_rfl) (by kernel_rfl) (fun _ _ _ h => h) (Or.inl ⟨by rfl, ?_⟩) hHeld ?_; rotate_left; focus (intro w hSw; (try dsimp only at hSw); go_simp; (try with_reducible rfl)))
            try simp only [Act.put, List.getElem_toArray, List.getElem_cons_succ, List.getElem_cons_zero, List.setIfInBounds_toArray, List.set_cons_zero, List.set_cons_succ]
            first | (refine wpAnyH_take (i := 20) rfl (by kernel_rfl) (by kernel_rfl) (by kernel_rfl) (fun _ _ _ h => h) (Or.inr ⟨by rfl, rfl⟩) hHeld ?_) | (refine wpAnyH_take (i := 20) (v := ?_) rfl (by kernel_rfl) (by kernel_rfl) (by kernel_rfl) (fun _ _ _ h => h) (Or.inl ⟨by rfl, ?_⟩) hHeld ?_; rotate_left; focus (intro w hSw; (try dsimp only at hSw); go_simp; (try with_reducible rfl)))
            try simp only [Act.put, List.getElem_toArray, List.getElem_cons_succ, List.getElem_cons_zero, List.setIfInBounds_toArray, List.set_cons_zero, List.set_cons_succ]
            first | (refine wpAnyH_take (i := 21) rfl (by kernel_rfl) (by kernel_rfl) (by kernel_rfl) (fun _ _ _ h => h) (Or.inr ⟨by rfl, rfl⟩) hHeld ?_) | (refine wpAnyH_take (i := 21) (v := ?_) rfl (by kernel_rfl) (by kernel_rfl) (by kernel_rfl) (fun _ _ _ h => h) (Or.inl ⟨by rfl, ?_⟩) hHeld ?_; rotate_left; focus (intro w hSw; (try dsimp only at hSw); go_simp; (try with_reducible rfl)))
            try simp only [Act.put, List.getElem_toArray, List.getElem_cons_succ, List.getElem_cons_zero, List.setIfInBounds_toArray, List.set_cons_zero, List.set_cons_succ]
            first | (refine wpAnyH_take (i := 22) rfl (by kernel_rfl) (by kernel_rfl) (by kernel_rfl) (fun _ _ _ h => h) (Or.inr ⟨by rfl, rfl⟩) hHeld ?_) | (refine wpAnyH_take (i := 22) (v := ?_) rfl (by kernel_rfl) (by kernel_rfl) (by kernel_rfl) (fun _ _ _ h => h) (Or.inl ⟨by rfl, ?_⟩) hHeld ?_; rotate_left; focus (intro w hSw; (try dsimp only at hSw); go_simp; (try with_reducible rfl)))
            try simp only [Act.put, List.getElem_toArray, List.getElem_cons_succ, List.getElem_cons_zero, List.setIfInBounds_toArray, List.set_cons_zero, List.set_cons_succ]
            first | (refine wpAnyH_take (i := 23) rfl (by kernel_rfl) (by kernel_rfl) (by kernel_rfl) (fun _ _ _ h => h) (Or.inr ⟨by rfl, rfl⟩) hHeld ?_) | (refine wpAnyH_take (i := 23) (v := ?_) rfl (by kernel_rfl) (by kernel_rfl) (by kernel_rfl) (fun _ _ _ h => h) (Or.inl ⟨by rfl, ?_⟩) hHeld ?_; rotate_left; focus (intro w hSw; (try dsimp only at hSw); go_simp; (try with_reducible rfl)))
            try simp only [Act.put, List.getElem_toArray, List.getElem_cons_succ, List.getElem_cons_zero, List.setIfInBounds_toArray, List.set_cons_zero, List.set_cons_succ]
            first | (refine wpAnyH_take (i := 24) rfl (by kernel_rfl) (by kernel_rfl) (by kernel_rfl) (fun _ _ _ h => h) (Or.inr ⟨by rfl, rfl⟩) hHeld ?_) | (refine wpAnyH_take (i := 24) (v := ?_) rfl (by kernel_rfl) (by kernel_rfl) (by kernel_rfl) (fun _ _ _ h => h) (Or.inl ⟨by rfl, ?_⟩) hHeld ?_; rotate_left; focus (intro w hSw; (try dsimp only at hSw); go_simp; (try with_reducible rfl)))
            try simp only [Act.put, List.getElem_toArray, List.getElem_cons_succ, List.getElem_cons_zero, List.setIfInBounds_toArray, List.set_cons_zero, List.set_cons_succ]
            first | (refine wpAnyH_take (i := 25) rfl (by kernel_rfl) (by kernel_rfl) (by kernel_rfl) (fun _ _ _ h => h) (Or.inr ⟨by rfl, rfl⟩) hHeld ?_) | (refine wpAnyH_take (i := 25) (v := ?_) rfl (by kernel_rfl) (by kernel_rfl) (by kernel_rfl) (fun _ _ _ h => h) (Or.inl ⟨by rfl, ?_⟩) hHeld ?_; rotate_left; focus (intro w hSw; (try dsimp only at hSw); go_simp; (try with_reducible rfl)))
            try simp only [Act.put, List.getElem_toArray, List.getElem_cons_succ, List.getElem_cons_zero, List.setIfInBounds_toArray, List.set_cons_zero, List.set_cons_succ]
            first | (refine wpAnyH_take (i := 26) rfl (by kernel_rfl) (by kernel_rfl) (by kernel_rfl) (fun _ _ _ h => h) (Or.inr ⟨by rfl, rfl⟩) hHeld ?_) | (refine wpAnyH_take (i := 26) (v := ?_) rfl (by kernel_rfl) (by kernel_rfl) (by kernel_rfl) (fun _ _ _ h => h) (Or.inl ⟨by rfl, ?_⟩) hHeld ?_; rotate_left; focus (intro w hSw; (try dsimp only at hSw); go_simp; (try with_reducible rfl)))
            try simp only [Act.put, List.getElem_toArray, List.getElem_cons_succ, List.getElem_cons_zero, List.setIfInBounds_toArray, List.set_cons_zero, List.set_cons_succ]
            first | (refine wpAnyH_take (i := 27) rfl (by kernel_rfl) (by kernel_rfl) (by kernel_rfl) (fun _ _ _ h => h) (Or.inr ⟨by rfl, rfl⟩) hHeld ?_) | (refine wpAnyH_take (i := 27) (v := ?_) rfl (by kernel_rfl) (by kernel_rfl) (by kernel_rfl) (fun _ _ _ h => h) (Or.inl ⟨by rfl, ?_⟩) hHeld ?_; rotate_left; focus (intro w hSw; (try dsimp only at hSw); go_simp; (try with_reducible rfl)))
            try simp only [Act.put, List.getElem_toArray, List.getElem_cons_succ, List.getElem_cons_zero, List.setIfInBounds_toArray, List.set_cons_zero, List.set_cons_succ]
            (refine wpAnyH_take (i := 28) (v := ?_) rfl (by kernel_rfl) (by kernel_rfl) (by kernel_rfl) (fun _ _ _ h => h) (Or.inl ⟨by rfl, ?_⟩) hHeld ?_; rotate_left; focus (intro w hSw; (try dsimp only at hSw); go_simp; (try with_reducible rfl)))
            try simp only [Act.put, List.getElem_toArray, List.getElem_cons_succ, List.getElem_cons_zero, List.setIfInBounds_toArray, List.set_cons_zero, List.set_cons_succ]
            refine wpAnyH_done (by kernel_rfl) ?_ _
            refine NoPanic.normal ?_
            clear HST hkS HP HP7 HQ
            go_wp2_with fail
            go_roundw
            case rel => exact ⟨k + 1, A9, r1 + 1, c9, x0 :: Y, bx', ox', cx', rfl, by go_num, by omega, by omega, HS3.out⟩
            case measure => simp [intOf]; omega
      · obtain rfl : k = m := by omega
        have HR := Lib.hid R
        clear R
        have P1 := fun A5 c5 W h1 h2 => lnPSame_any A1 A5 c1 c5 L L (by rw [HM.out.1]; omega) (by rw [HM.out.1]; omega) W h1 h2
        have P2 := fun A5 c5 W h1 h2 => lnPSame_any A8 A5 c8 c5 X O (by rw [HR.out.q.len]; omega) (by rw [HM.out.2.2]; omega) W h1 h2
        have P3 := fun W h1 h2 => refSame_below (some ⟨bx, ox, none⟩) E cx e0 X O (by rw [HR.out.q.len]; omega) (by rw [HM.out.2.2]; omega) W h1 h2
        rw [decide_eq_true rfl, HM.out.1] at P1
        rw [HR.out.q.len, HM.out.2.2] at P2 P3
        generalize decide (X = O) = bo at *
        have HP := Lib.hid (And.intro (fun A5 c5 W h1 h2 => P1 A5 c5 W h1 h2) (And.intro (fun A5 c5 W h1 h2 => P2 A5 c5 W h1 h2) (fun W h1 h2 => P3 W h1 h2)))
        clear P1 P2 P3
        have hkS : ∀ w1 w2, Below w1.heap.size w1 w2 → (PlayR w w1 g7 g8 A1 n c1 L A8 r c8 X bx ox r cx X ∧ w1.cell? ⟨g7, 0, none⟩ = some (.slice A1 n c1) ∧ w1.cell? ⟨g8, 0, none⟩ = some (.slice A8 r c8)) → (PlayR w w2 g7 g8 A1 n c1 L A8 r c8 X bx ox r cx X ∧ w2.cell? ⟨g7, 0, none⟩ = some (.slice A1 n c1) ∧ w2.cell? ⟨g8, 0, none⟩ = some (.slice A8 r c8)) := fun w1 w2 hb h => ⟨h.1.keep hb, (h.1.keep hb).fst.cell.cell0, (h.1.keep hb).q.cell.cell0⟩
        have HST : Hid (PlayR w wr.drew g7 g8 A1 n c1 L A8 r c8 X bx ox r cx X ∧ wr.drew.cell? ⟨g7, 0, none⟩ = some (.slice A1 n c1) ∧ wr.drew.cell? ⟨g8, 0, none⟩ = some (.slice A8 r c8)) := Lib.hid ⟨HR.out.drew, HR.out.drew.fst.cell.cell0, HR.out.drew.q.cell.cell0⟩
        go_upto_region 21 with fail
        refine wp_region_noPanic ?_
        refine wp_region_held_drew (S := fun w' => PlayR w w' g7 g8 A1 n c1 L A8 r c8 X bx ox r cx X ∧ w'.cell? ⟨g7, 0, none⟩ = some (.slice A1 n c1) ∧ w'.cell? ⟨g8, 0, none⟩ = some (.slice A8 r c8)) (by kernel_rfl) (HST.out) (fun hHeld => ?_)
        (refine wpAnyH_take (i := 0) (v := ?_) rfl (by kernel_rfl) (by kernel_rfl) (by kernel_rfl) (fun _ _ _ h => h) (Or.inl ⟨by rfl, ?_⟩) hHeld ?_; rotate_left; focus (intro w hSw; (try dsimp only at hSw); go_simp; (try with_reducible rfl)))
        try simp only [Act.put, List.getElem_toArray, List.getElem_cons_succ, List.getElem_cons_zero, List.setIfInBounds_toArray, List.set_cons_zero, List.set_cons_succ]
        (refine wpAnyH_take (i := 1) (v := ?_) rfl (by kernel_rfl) (by kernel_rfl) (by kernel_rfl) (fun _ _ _ h => h) (Or.inl ⟨by rfl, ?_⟩) hHeld ?_; rotate_left; focus (intro w hSw; (try dsimp only at hSw); go_simp; (try with_reducible rfl)))
        try simp only [Act.put, List.getElem_toArray, List.getElem_cons_succ, List.getElem_cons_zero, List.setIfInBounds_toArray, List.set_cons_zero, List.set_cons_succ]
        (refine wpAnyH_ready (rs := [2]) (by kernel_rfl) (by simp) ?_; refine AllReadyH.cons rfl (fun K hK => ?_) AllReadyH.nil; go_simp; (first | (go_at_call 7; with_reducible refine (C1.out _ (HA.out.1.keep hHeld.1.q.bel)).mono ?_; rintro e w' ⟨v, rfl, hv, -, hb⟩; obtain ⟨A5, c5, hv5, hl5⟩ := hv.form; subst hv5) | (go_at_call 15; with_reducible refine (HP.out.1 A5 c5 _ hHeld.1.fst.parts.2.2.2 hl5).mono ?_; rintro e w' ⟨rfl, hb⟩) | (go_at_call 12; refine (C5.out A1 n c1 _).mono ?_; rintro e w' ⟨rfl, hb⟩) | (go_at_call 7; with_reducible refine (CE.out _ (HA.out.2.2.keep hHeld.1.q.bel)).mono ?_; rintro e w' ⟨v, rfl, hv, -, hb⟩; obtain ⟨A6, c6, hv6, hl6⟩ := hv.form; subst hv6) | (go_at_call 15; with_reducible refine (HP.out.2.1 A6 c6 _ hHeld.1.q.parts.2.2.2 hl6).mono ?_; rintro e w' ⟨rfl, hb⟩) | (go_at_call 13; with_reducible refine (HP.out.2.2 _ hHeld.1.xs.2.2.1 (HA.out.2.2.keep hHeld.1.q.bel)).mono ?_; rintro e w' ⟨rfl, hb⟩) | (go_at_call 6; refine (C9.out _).mono ?_; rintro e w' ⟨rfl, hb⟩; have HEND := Lib.hid (hHeld.1.keep hb))); (try go_wp2_with fail); refine hK.out _ _ ?_ (fun hHeld' => ?_); (focus (exact hkS _ _ hb hHeld)); clear hK K; replace hHeld := hHeld'; clear hHeld')
        try simp only [Act.put, List.getElem_toArray, List.getElem_cons_succ, List.getElem_cons_zero, List.setIfInBounds_toArray, List.set_cons_zero, List.set_cons_succ]
        (refine wpAnyH_ready (rs := [3]) (by kernel_rfl) (by simp) ?_; refine AllReadyH.cons rfl (fun K hK => ?_) AllReadyH.nil; go_simp; (first | (go_at_call 7; with_reducible refine (C1.out _ (HA.out.1.keep hHeld.1.q.bel)).mono ?_; rintro e w' ⟨v, rfl, hv, -, hb⟩; obtain ⟨A5, c5, hv5, hl5⟩ := hv.form; subst hv5) | (go_at_call 15; with_reducible refine (HP.out.1 A5 c5 _ hHeld.1.fst.parts.2.2.2 hl5).mono ?_; rintro e w' ⟨rfl, hb⟩) | (go_at_call 12; refine (C5.out A1 n c1 _).mono ?_; rintro e w' ⟨rfl, hb⟩) | (go_at_call 7; with_reducible refine (CE.out _ (HA.out.2.2.keep hHeld.1.q.bel)).mono ?_; rintro e w' ⟨v, rfl, hv, -, hb⟩; obtain ⟨A6, c6, hv6, hl6⟩ := hv.form; subst hv6) | (go_at_call 15; with_reducible refine (HP.out.2.1 A6 c6 _ hHeld.1.q.parts.2.2.2 hl6).mono ?_; rintro e w' ⟨rfl, hb⟩) | (go_at_call 13; with_reducible refine (HP.out.2.2 _ hHeld.1.xs.2.2.1 (HA.out.2.2.keep hHeld.1.q.bel)).mono ?_; rintro e w' ⟨rfl, hb⟩) | (go_at_call 6; refine (C9.out _).mono ?_; rintro e w' ⟨rfl, hb⟩; have HEND := Lib.hid (hHeld.1.keep hb))); (try go_wp2_with fail); refine hK.out _ _ ?_ (fun hHeld' => ?_); (focus (exact hkS _ _ hb hHeld)); clear hK K; replace hHeld := hHeld'; clear hHeld')
        try simp only [Act.put, List.getElem_toArray, List.getElem_cons_succ, List.getElem_cons_zero, List.setIfInBounds_toArray, List.set_cons_zero, List.set_cons_succ]
        (refine wpAnyH_take (i := 4) (v := ?_) rfl (by kernel_rfl) (by kernel_rfl) (by kernel_rfl) (fun _ _ _ h => h) (Or.inl ⟨by rfl, ?_⟩) hHeld ?_; rotate_left; focus (intro w hSw; (try dsimp only at hSw); go_simp; (try with_reducible rfl)))
        try simp only [Act.put, List.getElem_toArray, List.getElem_cons_succ, List.getElem_cons_zero, List.setIfInBounds_toArray, List.set_cons_zero, List.set_cons_succ]
        first | (refine wpAnyH_take (i := 5) rfl (by kernel_rfl) (by kernel_rfl) (by kernel_rfl) (fun _ _ _ h => h) (Or.inr ⟨by rfl, rfl⟩) hHeld ?_) | (refine wpAnyH_take (i := 5) (v := ?_) rfl (by kernel_rfl) (by kernel_rfl) (by kernel_rfl) (fun _ _ _ h => h) (Or.inl ⟨by rfl, ?_⟩) hHeld ?_; rotate_left; focus (intro w hSw; (try dsimp only at hSw); go_simp; (try with_reducible rfl)))
        try simp only [Act.put, List.getElem_toArray, List.getElem_cons_succ, List.getElem_cons_zero, List.setIfInBounds_toArray, List.set_cons_zero, List.set_cons_succ]
        first | (refine wpAnyH_take (i := 7) rfl (by kernel_rfl) (by kernel_rfl) (by kernel_rfl) (fun _ _ _ h => h) (Or.inr ⟨by rfl, rfl⟩) hHeld ?_) | (refine wpAnyH_take (i := 7) (v := ?_) rfl (by kernel_rfl) (by kernel_rfl) (by kernel_rfl) (fun _ _ _ h => h) (Or.inl ⟨by rfl, ?_⟩) hHeld ?_; rotate_left; focus (intro w hSw; (try dsimp only at hSw); go_simp; (try with_reducible rfl)))
        try simp only [Act.put, List.getElem_toArray, List.getElem_cons_succ, List.getElem_cons_zero, List.setIfInBounds_toArray, List.set_cons_zero, List.set_cons_succ]
        first | (refine wpAnyH_take (i := 8) rfl (by kernel_rfl) (by kernel_rfl) (by kernel_rfl) (fun _ _ _ h => h) (Or.inr ⟨by rfl, rfl⟩) hHeld ?_) | (refine wpAnyH_take (i := 8) (v := ?_) rfl (by kernel_rfl) (by kernel_rfl) (by kernel_rfl) (fun _ _ _ h => h) (Or.inl ⟨by rfl, ?_⟩) hHeld ?_; rotate_left; focus (intro w hSw; (try dsimp only at hSw); go_simp; (try with_reducible rfl)))
        try simp only [Act.put, List.getElem_toArray, List.getElem_cons_succ, List.getElem_cons_zero, List.setIfInBounds_toArray, List.set_cons_zero, List.set_cons_succ]
        first | (refine wpAnyH_take (i := 6) rfl (by kernel_rfl) (by kernel_rfl) (by kernel_rfl) (fun _ _ _ h => h) (Or.inr ⟨by rfl, rfl⟩) hHeld ?_) | (refine wpAnyH_ready (rs := [6]) (by kernel_rfl) (by simp) ?_; refine AllReadyH.cons rfl (fun K hK => ?_) AllReadyH.nil; go_simp; (first | (go_at_call 7; with_reducible refine (C1.out _ (HA.out.1.keep hHeld.1.q.bel)).mono ?_; rintro e w' ⟨v, rfl, hv, -, hb⟩; obtain ⟨A5, c5, hv5, hl5⟩ := hv.form; subst hv5) | (go_at_call 15; with_reducible refine (HP.out.1 A5 c5 _ hHeld.1.fst.parts.2.2.2 hl5).mono ?_; rintro e w' ⟨rfl, hb⟩) | (go_at_call 12; refine (C5.out A1 n c1 _).mono ?_; rintro e w' ⟨rfl, hb⟩) | (go_at_call 7; with_reducible refine (CE.out _ (HA.out.2.2.keep hHeld.1.q.bel)).mono ?_; rintro e w' ⟨v, rfl, hv, -, hb⟩; obtain ⟨A6, c6, hv6, hl6⟩ := hv.form; subst hv6) | (go_at_call 15; with_reducible refine (HP.out.2.1 A6 c6 _ hHeld.1.q.parts.2.2.2 hl6).mono ?_; rintro e w' ⟨rfl, hb⟩) | (go_at_call 13; with_reducible refine (HP.out.2.2 _ hHeld.1.xs.2.2.1 (HA.out.2.2.keep hHeld.1.q.bel)).mono ?_; rintro e w' ⟨rfl, hb⟩) | (go_at_call 6; refine (C9.out _).mono ?_; rintro e w' ⟨rfl, hb⟩; have HEND := Lib.hid (hHeld.1.keep hb))); (try go_wp2_with fail); refine hK.out _ _ ?_ (fun hHeld' => ?_); (focus (exact hkS _ _ hb hHeld)); clear hK K; replace hHeld := hHeld'; clear hHeld')
        try simp only [Act.put, List.getElem_toArray, List.getElem_cons_succ, List.getElem_cons_zero, List.setIfInBounds_toArray, List.set_cons_zero, List.set_cons_succ]
        first | (refine wpAnyH_take (i := 9) rfl (by kernel_rfl) (by kernel_rfl) (by kernel_rfl) (fun _ _ _ h => h) (Or.inr ⟨by rfl, rfl⟩) hHeld ?_) | (refine wpAnyH_take (i := 9) (v := ?_) rfl (by kernel_rfl) (by kernel_rfl) (by kernel_rfl) (fun _ _ _ h => h) (Or.inl ⟨by rfl, ?_⟩) hHeld ?_; rotate_left; focus (intro w hSw; (try dsimp only at hSw); go_simp; (try with_reducible rfl)))
        try simp only [Act.put, List.getElem_toArray, List.getElem_cons_succ, List.getElem_cons_zero, List.setIfInBounds_toArray, List.set_cons_zero, List.set_cons_succ]
        (refine wpAnyH_take (i := 10) (v := ?_) rfl (by kernel_rfl) (by kernel_rfl) (by kernel_rfl) (fun _ _ _ h => h) (Or.inl ⟨by rfl, ?_⟩) hHeld ?_; rotate_left; focus (intro w hSw; (try dsimp only at hSw); go_simp; (try with_reducible rfl)))
        try simp only [Act.put, List.getElem_toArray, List.getElem_cons_succ, List.getElem_cons_zero, List.setIfInBounds_toArray, List.set_cons_zero, List.set_cons_succ]
        (refine wpAnyH_take (i := 11) (v := ?_) rfl (by kernel_rfl) (by kernel_rfl) (by kernel_rfl) (fun _ _ _ h => h) (Or.inl ⟨by rfl, ?_⟩) hHeld ?_; rotate_left; focus (intro w hSw; (try dsimp only at hSw); go_simp; (try with_reducible rfl)))
        try simp only [Act.put, List.getElem_toArray, List.getElem_cons_succ, List.getElem_cons_zero, List.setIfInBounds_toArray, List.set_cons_zero, List.set_cons_succ]
        first | (refine wpAnyH_take (i := 12) rfl (by kernel_rfl) (by kernel_rfl) (by kernel_rfl) (fun _ _ _ h => h) (Or.inr ⟨by rfl, rfl⟩) hHeld ?_) | (refine wpAnyH_take (i := 12) (v := ?_) rfl (by kernel_rfl) (by kernel_rfl) (by kernel_rfl) (fun _ _ _ h => h) (Or.inl ⟨by rfl, ?_⟩) hHeld ?_; rotate_left; focus (intro w hSw; (try dsimp only at hSw); go_simp; (try with_reducible rfl)))
        try simp only [Act.put, List.getElem_toArray, List.getElem_cons_succ, List.getElem_cons_zero, List.setIfInBounds_toArray, List.set_cons_zero, List.set_cons_succ]
        first | (refine wpAnyH_take (i := 13) rfl (by kernel_rfl) (by kernel_rfl) (by kernel_rfl) (fun _ _ _ h => h) (Or.inr ⟨by rfl, rfl⟩) hHeld ?_) | (refine wpAnyH_take (i := 13) (v := ?_) rfl (by kernel_rfl) (by kernel_rfl) (by kernel_rfl) (fun _ _ _ h => h) (Or.inl ⟨by rfl, ?_⟩) hHeld ?_; rotate_left; focus (intro w hSw; (try dsimp only at hSw); go_simp; (try with_reducible rfl)))
        try simp only [Act.put, List.getElem_toArray, List.getElem_cons_succ, List.getElem_cons_zero, List.setIfInBounds_toArray, List.set_cons_zero, List.set_cons_succ]
        first | (refine wpAnyH_take (i := 16) rfl (by kernel_rfl) (by kernel_rfl) (by kernel_rfl) (fun _ _ _ h => h) (Or.inr ⟨by rfl, rfl⟩) hHeld ?_) | (refine wpAnyH_take (i := 16) (v := ?_) rfl (by kernel_rfl) (by kernel_rfl) (by kernel_rfl) (fun _ _ _ h => h) (Or.inl ⟨by rfl, ?_⟩) hHeld ?_; rotate_left; focus (intro w hSw; (try dsimp only at hSw); go_simp; (try with_reducible rfl)))
        try simp only [Act.put, List.getElem_toArray, List.getElem_cons_succ, List.getElem_cons_zero, List.setIfInBounds_toArray, List.set_cons_zero, List.set_cons_succ]
        first | (refine wpAnyH_take (i := 17) rfl (by kernel_rfl) (by kernel_rfl) (by kernel_rfl) (fun _ _ _ h => h) (Or.inr ⟨by rfl, rfl⟩) hHeld ?_) | (refine wpAnyH_take (i := 17) (v := ?_) rfl (by kernel_rfl) (by kernel_rfl) (by kernel_rfl) (fun _ _ _ h => h) (Or.inl ⟨by rfl, ?_⟩) hHeld ?_; rotate_left; focus (intro w hSw; (try dsimp only at hSw); go_simp; (try with_reducible rfl)))
        try simp only [Act.put, List.getElem_toArray, List.getElem_cons_succ, List.getElem_cons_zero, List.setIfInBounds_toArray, List.set_cons_zero, List.set_cons_succ]
        first | (refine wpAnyH_take (i := 14) rfl (by kernel_rfl) (by kernel_rfl) (by kernel_rfl) (fun _ _ _ h => h) (Or.inr ⟨by rfl, rfl⟩) hHeld ?_) | (refine wpAnyH_ready (rs := [14]) (by kernel_rfl) (by simp) ?_; refine AllReadyH.cons rfl (fun K hK => ?_) AllReadyH.nil; go_simp; (first | (go_at_call 7; with_reducible refine (C1.out _ (HA.out.1.keep hHeld.1.q.bel)).mono ?_; rintro e w' ⟨v, rfl, hv, -, hb⟩; obtain ⟨A5, c5, hv5, hl5⟩ := hv.form; subst hv5) | (go_at_call 15; with_reducible refine (HP.out.1 A5 c5 _ hHeld.1.fst.parts.2.2.2 hl5).mono ?_; rintro e w' ⟨rfl, hb⟩) | (go_at_call 12; refine (C5.out A1 n c1 _).mono ?_; rintro e w' ⟨rfl, hb⟩) | (go_at_call 7; with_reducible refine (CE.out _ (HA.out.2.2.keep hHeld.1.q.bel)).mono ?_; rintro e w' ⟨v, rfl, hv, -, hb⟩; obtain ⟨A6, c6, hv6, hl6⟩ := hv.form; subst hv6) | (go_at_call 15; with_reducible refine (HP.out.2.1 A6 c6 _ hHeld.1.q.parts.2.2.2 hl6).mono ?_; rintro e w' ⟨rfl, hb⟩) | (go_at_call 13; with_reducible refine (HP.out.2.2 _ hHeld.1.xs.2.2.1 (HA.out.2.2.keep hHeld.1.q.bel)).mono ?_; rintro e w' ⟨rfl, hb⟩) | (go_at_call 6; refine (C9.out _).mono ?_; rintro e w' ⟨rfl, hb⟩; have HEND := Lib.hid (hHeld.1.keep hb))); (try go_wp2_with fail); refine hK.out _ _ ?_ (fun hHeld' => ?_); (focus (exact hkS _ _ hb hHeld)); clear hK K; replace hHeld := hHeld'; clear hHeld')
        try simp only [Act.put, List.getElem_toArray, List.getElem_cons_succ, List.getElem_cons_zero, List.setIfInBounds_toArray, List.set_cons_zero, List.set_cons_succ]
        first | (refine wpAnyH_take (i := 15) rfl (by kernel_rfl) (by kernel_rfl) (by kernel_rfl) (fun _ _ _ h => h) (Or.inr ⟨by rfl, rfl⟩) hHeld ?_) | (refine wpAnyH_ready (rs := [15]) (by kernel_rfl) (by simp) ?_; refine AllReadyH.cons rfl (fun K hK => ?_) AllReadyH.nil; go_simp; (first | (go_at_call 7; with_reducible refine (C1.out _ (HA.out.1.keep hHeld.1.q.bel)).mono ?_; rintro e w' ⟨v, rfl, hv, -, hb⟩; obtain ⟨A5, c5, hv5, hl5⟩ := hv.form; subst hv5) | (go_at_call 15; with_reducible refine (HP.out.1 A5 c5 _ hHeld.1.fst.parts.2.2.2 hl5).mono ?_; rintro e w' ⟨rfl, hb⟩) | (go_at_call 12; refine (C5.out A1 n c1 _).mono ?_; rintro e w' ⟨rfl, hb⟩) | (go_at_call 7; with_reducible refine (CE.out _ (HA.out.2.2.keep hHeld.1.q.bel)).mono ?_; rintro e w' ⟨v, rfl, hv, -, hb⟩; obtain ⟨A6, c6, hv6, hl6⟩ := hv.form; subst hv6) | (go_at_call 15; with_reducible refine (HP.out.2.1 A6 c6 _ hHeld.1.q.parts.2.2.2 hl6).mono ?_; rintro e w' ⟨rfl, hb⟩) | (go_at_call 13; with_reducible refine (HP.out.2.2 _ hHeld.1.xs.2.2.1 (HA.out.2.2.keep hHeld.1.q.bel)).mono ?_; rintro e w' ⟨rfl, hb⟩) | (go_at_call 6; refine (C9.out _).mono ?_; rintro e w' ⟨rfl, hb⟩; have HEND := Lib.hid (hHeld.1.keep hb))); (try go_wp2_with fail); refine hK.out _ _ ?_ (fun hHeld' => ?_); (focus (exact hkS _ _ hb hHeld)); clear hK K; replace hHeld := hHeld'; clear hHeld')
        try simp only [Act.put, List.getElem_toArray, List.getElem_cons_succ, List.getElem_cons_zero, List.setIfInBounds_toArray, List.set_cons_zero, List.set_cons_succ]
        first | (refine wpAnyH_take (i := 18) rfl (by kernel_rfl) (by kernel_rfl) (by kernel_rfl) (fun _ _ _ h => h) (Or.inr ⟨by rfl, rfl⟩) hHeld ?_) | (refine wpAnyH_ready (rs := [18]) (by kernel_rfl) (by simp) ?_; refine AllReadyH.cons rfl (fun K hK => ?_) AllReadyH.nil; go_simp; (first | (go_at_call 7; with_reducible refine (C1.out _ (HA.out.1.keep hHeld.1.q.bel)).mono ?_; rintro e w' ⟨v, rfl, hv, -, hb⟩; obtain ⟨A5, c5, hv5, hl5⟩ := hv.form; subst hv5) | (go_at_call 15; with_reducible refine (HP.out.1 A5 c5 _ hHeld.1.fst.parts.2.2.2 hl5).mono ?_; rintro e w' ⟨rfl, hb⟩) | (go_at_call 12; refine (C5.out A1 n c1 _).mono ?_; rintro e w' ⟨rfl, hb⟩) | (go_at_call 7; with_reducible refine (CE.out _ (HA.out.2.2.keep hHeld.1.q.bel)).mono ?_; rintro e w' ⟨v, rfl, hv, -, hb⟩; obtain ⟨A6, c6, hv6, hl6⟩ := hv.form; subst hv6) | (go_at_call 15; with_reducible refine (HP.out.2.1 A6 c6 _ hHeld.1.q.parts.2.2.2 hl6).mono ?_; rintro e w' ⟨rfl, hb⟩) | (go_at_call 13; with_reducible refine (HP.out.2.2 _ hHeld.1.xs.2.2.1 (HA.out.2.2.keep hHeld.1.q.bel)).mono ?_; rintro e w' ⟨rfl, hb⟩) | (go_at_call 6; refine (C9.out _).mono ?_; rintro e w' ⟨rfl, hb⟩; have HEND := Lib.hid (hHeld.1.keep hb))); (try go_wp2_with fail); refine hK.out _ _ ?_ (fun hHeld' => ?_); (focus (exact hkS _ _ hb hHeld)); clear hK K; replace hHeld := hHeld'; clear hHeld')
        try simp only [Act.put, List.getElem_toArray, List.getElem_cons_succ, List.getElem_cons_zero, List.setIfInBounds_toArray, List.set_cons_zero, List.set_cons_succ]
        first | (refine wpAnyH_take (i := 19) rfl (by kernel_rfl) (by kernel_rfl) (by kernel_rfl) (fun _ _ _ h => h) (Or.inr ⟨by rfl, rfl⟩) hHeld ?_) | (refine wpAnyH_take (i := 19) (v := ?_) rfl (by kernel_rfl) (by kernel_rfl) (by kernel_rfl) (fun _ _ _ h => h) (Or.inl ⟨by rfl, ?_⟩) hHeld ?_; rotate_left; focus (intro w hSw; (try dsimp only at hSw); go_simp; (try with_reducible rfl)))
        try simp only [Act.put, List.getElem_toArray, List.getElem_cons_succ, List.getElem_cons_zero, List.setIfInBounds_toArray, List.set_cons_zero, List.set_cons_succ]
        (refine wpAnyH_take (i := 20) (v := ?_) rfl (by kernel_rfl) (by kernel_rfl) (by kernel_rfl) (fun _ _ _ h => h) (Or.inl ⟨by rfl, ?_⟩) hHeld ?_; rotate_left; focus (intro w hSw; (try dsimp only at hSw); go_simp; (try with_reducible rfl)))
        try simp only [Act.put, List.getElem_toArray, List.getElem_cons_succ, List.getElem_cons_zero, List.setIfInBounds_toArray, List.set_cons_zero, List.set_cons_succ]
        (refine wpAnyH_take (i := 21) (v := ?_) rfl (by kernel_rfl) (by kernel_rfl) (by kernel_rfl) (fun _ _ _ h => h) (Or.inl ⟨by rfl, ?_⟩) hHeld ?_; rotate_left; focus (intro w hSw; (try dsimp only at hSw); go_simp; (try with_reducible rfl)))
        try simp only [Act.put, List.getElem_toArray, List.getElem_cons_succ, List.getElem_cons_zero, List.setIfInBounds_toArray, List.set_cons_zero, List.set_cons_succ]
        first | (refine wpAnyH_take (i := 22) rfl (by kernel_rfl) (by kernel_rfl) (by kernel_rfl) (fun _ _ _ h => h) (Or.inr ⟨by rfl, rfl⟩) hHeld ?_) | (refine wpAnyH_ready (rs := [22]) (by kernel_rfl) (by simp) ?_; refine AllReadyH.cons rfl (fun K hK => ?_) AllReadyH.nil; go_simp; (first | (go_at_call 7; with_reducible refine (C1.out _ (HA.out.1.keep hHeld.1.q.bel)).mono ?_; rintro e w' ⟨v, rfl, hv, -, hb⟩; obtain ⟨A5, c5, hv5, hl5⟩ := hv.form; subst hv5) | (go_at_call 15; with_reducible refine (HP.out.1 A5 c5 _ hHeld.1.fst.parts.2.2.2 hl5).mono ?_; rintro e w' ⟨rfl, hb⟩) | (go_at_call 12; refine (C5.out A1 n c1 _).mono ?_; rintro e w' ⟨rfl, hb⟩) | (go_at_call 7; with_reducible refine (CE.out _ (HA.out.2.2.keep hHeld.1.q.bel)).mono ?_; rintro e w' ⟨v, rfl, hv, -, hb⟩; obtain ⟨A6, c6, hv6, hl6⟩ := hv.form; subst hv6) | (go_at_call 15; with_reducible refine (HP.out.2.1 A6 c6 _ hHeld.1.q.parts.2.2.2 hl6).mono ?_; rintro e w' ⟨rfl, hb⟩) | (go_at_call 13; with_reducible refine (HP.out.2.2 _ hHeld.1.xs.2.2.1 (HA.out.2.2.keep hHeld.1.q.bel)).mono ?_; rintro e w' ⟨rfl, hb⟩) | (go_at_call 6; refine (C9.out _).mono ?_; rintro e w' ⟨rfl, hb⟩; have HEND := Lib.hid (hHeld.1.keep hb))); (try go_wp2_with fail); refine hK.out _ _ ?_ (fun hHeld' => ?_); (focus (exact hkS _ _ hb hHeld)); clear hK K; replace hHeld := hHeld'; clear hHeld')
        try simp only [Act.put, List.getElem_toArray, List.getElem_cons_succ, List.getElem_cons_zero, List.setIfInBounds_toArray, List.set_cons_zero, List.set_cons_succ]
        (refine wpAnyH_take (i := 23) (v := ?_) rfl (by kernel_rfl) (by kernel_rfl) (by kernel_rfl) (fun _ _ _ h => h) (Or.inl ⟨by rfl, ?_⟩) hHeld ?_; rotate_left; focus (intro w hSw; (try dsimp only at hSw); go_simp; (try with_reducible rfl)))
        try simp only [Act.put, List.getElem_toArray, List.getElem_cons_succ, List.getElem_cons_zero, List.setIfInBounds_toArray, List.set_cons_zero, List.set_cons_succ]
        (refine wpAnyH_take (i := 24) (v := ?_) rfl (by kernel_rfl) (by kernel_rfl) (by kernel_rfl) (fun _ _ _ h => h) (Or.inl ⟨by rfl, ?_⟩) hHeld ?_; rotate_left; focus (intro w hSw; (try dsimp only at hSw); go_simp; (try with_reducible rfl)))
        try simp only [Act.put, List.getElem_toArray, List.getElem_cons_succ, List.getElem_cons_zero, List.setIfInBounds_toArray, List.set_cons_zero, List.set_cons_succ]
        refine wpAnyH_done (by kernel_rfl) ?_ _
        refine NoPanic.normal ?_
        clear HST hkS HP
        go_wp2_with fail
        go_ret
        exact ⟨rfl, HEND.out.q.bel⟩

theorem linePlays_walk (A D E : Option Addr) (c d e0 : Nat) (L M O : List Pr) (hL : L.length ≤ 9223372036854775807) (hM : M.length ≤ 9223372036854775807) (hO : O.length ≤ 9223372036854775807) (w : World) (hA : LiesC w A (flatP L)) (hD : LiesC w D (flatP M)) (hE : LiesC w E (flatP O)) :
    Calls Try.prog 3 #[.slice A L.length c, .slice D M.length d, .slice E O.length e0] w fun e w' => e = .returned (.bool true) ∧ Below w.heap.size w w' := by
  by_cases h : 100 < L.length ∨ 100 < M.length ∨ 200 < O.length
  · exact linePlays_long A D E c d e0 L M O h hL hM hO w
  · exact linePlays_short A D E c d e0 L M O (by omega) (by omega) (by omega) w hA hD hE
end Go.Proofs.Ytfklbbjmjkojjaa
