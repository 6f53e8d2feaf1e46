/- The document's warden: Take, Drop. -/
import Derived.Test.YtlldhkcimlmaoaaRef7Set
namespace Go.Proofs.Ytlldhkcimlmaoaa
open Go.ChangeShapes Go.WideShapes Go.ChangeAt Go.RowKit Go.Maps

theorem results_row_tmp {P : Program} {fn : Func} {p u : Tmp} {ty : TypeId} (h : fn.results = #[.cell p ty, .tmp u]) (tmps : Array Value) (w : World) (g : Nat) (t : TypeId) (cs : Array Value) (fr : Nat × Nat) (d : TypeDesc)
    (hp : tmps.getD p undef = .pointer (some ⟨g, 0, none⟩)) (hg : w.heap[g]? = some (.cells cs t fr))
    (hu : P.underlying ty = some d) (hd : (match d with | .struct _ | .array _ _ => true | _ => false) = true) (hi : (P.info? ty).map (·.size) = some cs.size) :
    (results fn tmps).run P w = .ok (.tuple #[.agg cs, tmps.getD u undef]) w := by
  have hp' : tmps[p]?.getD undef = .pointer (some ⟨g, 0, none⟩) := by simpa using hp
  simp [results, h, hp', asAddr, run_loadVar_row w g t ty cs fr d hg hu hd hi]
theorem refR_one (b c : Nat) (s : Ward) : (rowOf 2 (refR b c s)).all (·.oneCell') = true := rowOf_one fun j => by
  match j with
  | 0 => rfl
  | _ + 1 => rfl
theorem RefIs.and {F G : Nat → Prop} {w : World} {b : Nat} {Bk Cp : Nat → Nat} {s : Ward} (h : RefIs F w b Bk Cp s) (hG : ∀ i, i < w.heap.size → ¬ G i) : RefIs (fun x => F x ∨ G x) w b Bk Cp s :=
  ⟨h.blk, fun e => e.elim h.out (hG b h.blk), h.row, fun i hi => ⟨(h.blks i hi).1, fun e => e.elim (h.blks i hi).2 (hG _ (h.blks i hi).1)⟩, h.cell⟩
theorem RefIs.weak {F G : Nat → Prop} {w : World} {b : Nat} {Bk Cp : Nat → Nat} {s : Ward} (h : RefIs F w b Bk Cp s) (hG : ∀ i, G i → F i) : RefIs G w b Bk Cp s :=
  ⟨h.blk, fun e => h.out (hG _ e), h.row, fun i hi => ⟨(h.blks i hi).1, fun e => (h.blks i hi).2 (hG _ e)⟩, h.cell⟩
theorem RefIs.congr {F : Nat → Prop} {w : World} {b : Nat} {Bk Cp : Nat → Nat} {s s' : Ward} (h : RefIs F w b Bk Cp s) (hl : s'.levels = s.levels) (hj : s'.slots = s.slots)
    (hc : ∀ i j : Nat, i < s.levels → j < s.slots → s'.held i (j + 1) = s.held i (j + 1) ∧ s'.gen i (j + 1) = s.gen i (j + 1)) : RefIs F w b Bk Cp s' := by
  refine ⟨h.blk, h.out, fun i hi => ?_, fun i hi => ?_, fun i j hi hj' => ?_⟩
  · rw [hj]; exact h.row i (by omega)
  · exact h.blks i (by omega)
  · obtain ⟨e1, e2⟩ := hc i j (by omega) (by omega)
    rw [e1, e2]
    exact h.cell i j (by omega) (by omega)
theorem put_set (s : Ward) (k i x y : Nat) {gn : Nat} (_h : s.held k ((i : Int) + 1) = false) (hg : s.gen k (i + 1) = gn) : (putW s k ((i : Int) + 1)).held x ((y : Int) + 1) = (setW s k (i + 1) true gn).held x ((y : Int) + 1) ∧ (putW s k ((i : Int) + 1)).gen x (y + 1) = (setW s k (i + 1) true gn).gen x (y + 1) := by
  show (decide ((x : Int) = k ∧ (y : Int) + 1 = (i : Int) + 1) || s.held x ((y : Int) + 1)) = (bif decide ((x : Int) = k ∧ (y : Int) + 1 = ((i + 1 : Nat) : Int)) then true else s.held x ((y : Int) + 1)) ∧ s.gen x (y + 1) = (bif decide (x = k ∧ y + 1 = i + 1) then gn else s.gen x (y + 1))
  by_cases e : x = k ∧ y = i
  · obtain ⟨rfl, rfl⟩ := e
    rw [decide_eq_true (by omega), decide_eq_true (by omega), decide_eq_true ⟨rfl, rfl⟩]
    exact ⟨rfl, hg⟩
  · rw [decide_eq_false (by omega), decide_eq_false (by omega), decide_eq_false (by omega)]
    exact ⟨rfl, rfl⟩
theorem del_set (s : Ward) (k i x y : Nat) {gn : Nat} (_h : s.held k ((i : Int) + 1) = true) (hg : s.gen k (i + 1) = gn) : (delW s k ((i : Int) + 1)).held x ((y : Int) + 1) = (setW s k (i + 1) false (gn + 1)).held x ((y : Int) + 1) ∧ (delW s k ((i : Int) + 1)).gen x (y + 1) = (setW s k (i + 1) false (gn + 1)).gen x (y + 1) := by
  show (!decide ((x : Int) = k ∧ (y : Int) + 1 = (i : Int) + 1) && s.held x ((y : Int) + 1)) = (bif decide ((x : Int) = k ∧ (y : Int) + 1 = ((i + 1 : Nat) : Int)) then false else s.held x ((y : Int) + 1)) ∧ (bif decide ((x : Int) = k ∧ ((y + 1 : Nat) : Int) = (i : Int) + 1) then s.gen x (y + 1) + 1 else s.gen x (y + 1)) = (bif decide (x = k ∧ y + 1 = i + 1) then gn + 1 else s.gen x (y + 1))
  by_cases e : x = k ∧ y = i
  · obtain ⟨rfl, rfl⟩ := e
    rw [decide_eq_true (by omega), decide_eq_true (by omega), decide_eq_true (by omega), decide_eq_true ⟨rfl, rfl⟩]
    exact ⟨rfl, by rw [← hg]; first | done | rfl⟩
  · rw [decide_eq_false (by omega), decide_eq_false (by omega), decide_eq_false (by omega), decide_eq_false (by omega)]
    exact ⟨rfl, rfl⟩
/-- What the document's warden is behind a call. -/
def RefDone (F : Nat → Prop) (w : World) (s : Ward) (q : Bool) (e : Ending) (w' : World) : Prop :=
  ∃ b' c' Bk' Cp', e = .returned (.tuple #[.agg #[.slice (some ⟨b', 0, none⟩) s.levels c', .int .i64 s.slips], .bool q]) ∧ RefIs F w' b' Bk' Cp' s ∧ Below w.heap.size w w'

section
variable (F : Nat → Prop) (b c : Nat) (Bk Cp : Nat → Nat) (s : Ward) (N : Nat) (hs : OkW s N) (w : World) (hr : RefIs F w b Bk Cp s) (hF : ∀ i, F i → i < w.heap.size) (hN : N < 1000000)
include hs hr hF hN
set_option maxHeartbeats 4000000 in
theorem rTake_any (l j : Int) (hl : inI l) (hj : inI j) : Calls Try.prog 20 #[.agg #[.slice (some ⟨b, 0, none⟩) s.levels c, .int .i64 s.slips], .int .i64 l, .int .i64 j] w (RefDone F w (takeW s l j) (takeB s l j)) := by
  have b1 := hs.l4
  have b3 := hs.s60
  have b4 := hs.slip
  have C1 := Lib.hid fun W hr' => rThere_any F b c Bk Cp s N hs W hr' l j
  cases hh : hasB s l j
  · have e1 : takeB s l j = false := by unfold takeB; rw [hh]; rfl
    have e2 : takeW s l j = slipW s := by unfold takeW; rw [e1]; rfl
    rw [hh] at C1
    rw [e1, e2]
    clear e1 e2 hh hs hF
    go_enter Try.func20, Try.ntmps20
    go_upto_region 1 with fail
    generalize hW : World.alloc _ _ = W
    obtain ⟨hB, hx, hq⟩ := two_blocks w 30 30 2 2 (refR b c s) (fun j => match j with | 0 => .slice none 0 0 | _ => .int .i64 0) W hW
    clear hW
    have hR := hr.keep hB
    generalize hz : w.heap.size = a1 at *
    have HZ := Lib.hid hz; clear hz
    obtain ⟨u0, u1⟩ := ref_cells hx
    have HR := Lib.hid hR; have HB := Lib.hid hB; have HX := Lib.hid hx; have HQ := Lib.hid hq
    have HR0 := Lib.hid hr
    clear hr hR hB hx hq
    go_upto_region 2 with (go_at_call 24; refine (C1.out _ HR.out).mono ?_; rintro e w1 ⟨rfl, hb1⟩)
    have hR1 := HR.out.keep hb1
    have hx1 := HX.out.keep hb1
    have hq1 := HQ.out.keep hb1
    have hB1 := HB.out.trans (hb1.mono (by have := HX.out.lt; omega))
    have hsz1 := hq1.lt
    clear hb1 u0 u1
    obtain ⟨u0, u1⟩ := ref_cells hx1
    have uf := hx1.frozen 1
    have R1 := Lib.hid (And.intro hR1 (And.intro hx1 (And.intro hq1 hB1)))
    clear hR1 hx1 hq1 hB1 HR HX HQ HB
    go_upto_region 3 with fail
    generalize hW4 : World.setCell _ _ _ = W4
    have n1 : a1 + 1 ≠ a1 := by omega
    have hx4 : Row W4 a1 30 2 (refR b c (slipW s)) := by
      rw [← hW4]
      exact (R1.out.2.1.set_ 1 _).congr fun j hj => by
        match j, hj with
        | 0, _ => rfl
        | 1, _ => rfl
    have hq4 : Row W4 (a1 + 1) 30 2 (fun j => match j with | 0 => .slice none 0 0 | _ => .int .i64 0) := by
      rw [← hW4]
      exact R1.out.2.2.1.far n1 _
    have hB4 : Below a1 w W4 := by
      rw [← hW4]
      exact R1.out.2.2.2.setCell (Nat.le_refl _) _
    clear hW4 u0 u1 uf
    have HF2 : Hid (∀ w', Only (fun x => x = a1 + 1) W4 w' → RefDone F w (slipW s) false (.returned (.tuple #[.agg (rowOf 2 (refR b c (slipW s))), .bool false])) w') := Lib.hid fun w' ho => by
      have hb' : Below a1 w w' := Below.only hB4 ho (Nat.le_of_lt hx4.lt) (fun x e => by have e' : x = a1 + 1 := e; omega)
      exact ⟨b, c, Bk, Cp, rfl, (HR0.out.keep (by rw [HZ.out]; exact hb')).congr rfl rfl (fun _ _ _ _ => ⟨rfl, rfl⟩), by rw [HZ.out]; exact hb'⟩
    obtain ⟨u0, u1⟩ := ref_cells hx4
    have f2 : #[Value.slice (some ⟨b, 0, none⟩) (slipW s).levels c, .int .i64 (slipW s).slips] = rowOf 2 (refR b c (slipW s)) := rfl
    have F1 := Lib.hid (refR_one b c (slipW s))
    have HQ4 := Lib.hid hq4
    clear hq4 hB4 hx4 R1
    go_wp2_with (refine wpList_store_row rfl 30 _ _ rfl (a1 + 1) (rowOf 2 (refR b c (slipW s))) rfl rfl 30 (rowOf 2 (fun j => match j with | 0 => .slice none 0 0 | _ => .int .i64 0)) HQ4.out (by kernel_rfl) rfl F1.out ?_)
    exact bodyPost_ret (results_row_tmp (p := 6) (u := 7) (ty := 30) (by kernel_rfl) _ _ (a1 + 1) 30 (rowOf 2 (refR b c (slipW s))) (0, 0) _ rfl (Row.setRow_ HQ4.out _) Try.underlying30 rfl (by kernel_rfl)) rfl
      (HF2.out _ (only_setRow _ _ _))
  · have hin := hasB_iff.1 hh
    obtain ⟨k, rfl⟩ : ∃ k : Nat, l = k := ⟨l.toNat, by omega⟩
    obtain ⟨i, rfl⟩ : ∃ i : Nat, j = i + 1 := ⟨j.toNat - 1, by omega⟩
    have hk : k < s.levels := by omega
    have hi : i < s.slots := by omega
    have t1 : decide (k < s.levels) = true := by simp [hk]
    have t2 : decide (i < s.slots) = true := by simp [hi]
    rw [hh] at C1
    cases h2 : s.held k ((i : Int) + 1)
    · have e1 : takeB s k ((i : Int) + 1) = true := by unfold takeB; rw [hh, h2]; rfl
      have e2 : takeW s k ((i : Int) + 1) = putW s k ((i : Int) + 1) := by unfold takeW; rw [e1]; rfl
      rw [e1, e2]
      have HE := Lib.hid h2
      have HS := Lib.hid hs
      have HF := Lib.hid hF
      clear e1 e2 hh h2 hin hs hF
      go_enter Try.func20, Try.ntmps20
      go_upto_region 1 with fail
      generalize hW : World.alloc _ _ = W
      obtain ⟨hB, hx, hq⟩ := two_blocks w 30 30 2 2 (refR b c s) (fun j => match j with | 0 => .slice none 0 0 | _ => .int .i64 0) W hW
      clear hW
      have hR := hr.keep hB
      generalize hz : w.heap.size = a1 at *
      have HZ := Lib.hid hz; clear hz
      obtain ⟨u0, u1⟩ := ref_cells hx
      have HR := Lib.hid hR; have HB := Lib.hid hB; have HX := Lib.hid hx; have HQ := Lib.hid hq
      have HR0 := Lib.hid hr
      clear hr hR hB hx hq
      go_upto_region 4 with (go_at_call 24; refine (C1.out _ HR.out).mono ?_; rintro e w1 ⟨rfl, hb1⟩; have x1 := HX.out.keep hb1; have x2 := HR.out.keep hb1; obtain ⟨y0, y1⟩ := ref_cells x1; have y2 := x2.row k hk; obtain ⟨y3, y4⟩ := x2.cell k i hk hi; rw [HE.out] at y3; clear x1 x2)
      generalize hgn : s.gen k (i + 1) = gn at *
      have HG := Lib.hid hgn
      clear hgn
      go_upto_region 6 with fail
      generalize hW2 : World.alloc _ _ = W2
      have hb2 : Below w1.heap.size w1 W2 := by rw [← hW2]; exact (Below.refl _ _).alloc (Nat.le_refl _) _
      have hs2 : Row W2 w1.heap.size 61 2 (slotR true gn) := by rw [← hW2]; exact Row.new _ _ _ _ _ rfl
      clear hW2 y0 y1 y2 y3 y4 u0 u1
      have hx2 := (HX.out.keep hb1).keep hb2
      have hq2 := (HQ.out.keep hb1).keep hb2
      have hB2 : Below a1 w W2 := (HB.out.trans (hb1.mono (by have := HX.out.lt; omega))).trans (hb2.mono (by have := (HX.out.keep hb1).lt; omega))
      have hR2 := (HR0.out.and (G := fun x => x = a1 + 1) (fun x hx => by rw [HZ.out] at hx; show ¬ x = a1 + 1; omega)).keep (by rw [HZ.out]; exact hB2)
      have hlt2 := hx2.lt
      obtain ⟨u0, u1⟩ := ref_cells hx2
      have v0 : W2.cell? ⟨w1.heap.size, 0, none⟩ = some (.bool true) := hs2.cell (i := 0) (by omega)
      have v1 : W2.cell? ⟨w1.heap.size, 1, none⟩ = some (.int .i64 gn) := hs2.cell (i := 1) (by omega)
      have CS : Calls Try.prog 33 #[.agg #[.slice (some ⟨b, 0, none⟩) s.levels c, .int .i64 s.slips], .int .i64 k, .int .i64 ((i : Int) + 1), .agg #[.bool true, .int .i64 gn]] W2
          fun e w' => ∃ b' c' Bk' Cp', e = .returned (.agg #[.slice (some ⟨b', 0, none⟩) s.levels c', .int .i64 s.slips]) ∧ RefIs (fun x => F x ∨ x = a1 + 1) w' b' Bk' Cp' (setW s k (i + 1) true gn) ∧ Below W2.heap.size W2 w' :=
        rSet_any (fun x => F x ∨ x = a1 + 1) b c Bk Cp s N HS.out W2 hR2 (fun x hx => hx.elim (fun hx => by have := HF.out x hx; omega) (fun hx => by have := hq2.lt; omega)) k i hk hi true gn
      have HCS := Lib.hid CS
      have H2 := Lib.hid (And.intro hq2 hB2)
      clear CS hs2 hx2 hq2 hR2 hB2 hb1 hb2 HX HQ HR HB
      generalize w1.heap.size = a2 at *
      go_wp2_with (first | (go_at_call 33; refine (HCS.out).mono ?_; rintro e w3 ⟨b', c', Bk', Cp', rfl, hR3, hb3⟩; have hq3 := H2.out.1.keep hb3) | (refine wpList_store_row rfl 30 _ _ rfl (a1 + 1) (rowOf 2 (refR b' c' s)) rfl rfl 30 (rowOf 2 (fun j => match j with | 0 => .slice none 0 0 | _ => .int .i64 0)) hq3 (by kernel_rfl) rfl (refR_one b' c' s) ?_))
      have ho := only_setRow w3 (a1 + 1) (rowOf 2 (refR b' c' s))
      have hB3 : Below a1 w w3 := H2.out.2.trans (hb3.mono (Nat.le_of_lt hlt2))
      have hR4 : RefIs F (w3.setRow (a1 + 1) (rowOf 2 (refR b' c' s))) b' Bk' Cp' (setW s k (i + 1) true gn) := (hR3.only (ho.mono fun _ _ e => Or.inr e)).weak fun _ e => Or.inl e
      exact bodyPost_ret (results_row_tmp (p := 6) (u := 7) (ty := 30) (by kernel_rfl) _ _ (a1 + 1) 30 (rowOf 2 (refR b' c' s)) (0, 0) _ rfl (Row.setRow_ hq3 _) Try.underlying30 rfl (by kernel_rfl)) rfl
        ⟨b', c', Bk', Cp', rfl, hR4.congr rfl rfl (fun x y _ _ => put_set s k i x y HE.out HG.out), by rw [HZ.out]; exact Below.only hB3 ho (by have := hq3.lt; omega) (fun x e => by have e' : x = a1 + 1 := e; omega)⟩
    · have e1 : takeB s k ((i : Int) + 1) = false := by unfold takeB; rw [hh, h2]; rfl
      have e2 : takeW s k ((i : Int) + 1) = slipW s := by unfold takeW; rw [e1]; rfl
      rw [e1, e2]
      have HE := Lib.hid h2
      clear e1 e2 hh h2 hin hs hF
      go_enter Try.func20, Try.ntmps20
      go_upto_region 1 with fail
      generalize hW : World.alloc _ _ = W
      obtain ⟨hB, hx, hq⟩ := two_blocks w 30 30 2 2 (refR b c s) (fun j => match j with | 0 => .slice none 0 0 | _ => .int .i64 0) W hW
      clear hW
      have hR := hr.keep hB
      generalize hz : w.heap.size = a1 at *
      have HZ := Lib.hid hz; clear hz
      obtain ⟨u0, u1⟩ := ref_cells hx
      have HR := Lib.hid hR; have HB := Lib.hid hB; have HX := Lib.hid hx; have HQ := Lib.hid hq
      have HR0 := Lib.hid hr
      clear hr hR hB hx hq
      go_upto_region 2 with (go_at_call 24; refine (C1.out _ HR.out).mono ?_; rintro e w1 ⟨rfl, hb1⟩; have x1 := HX.out.keep hb1; have x2 := HR.out.keep hb1; obtain ⟨y0, y1⟩ := ref_cells x1; have y2 := x2.row k hk; have y3 := (x2.cell k i hk hi).1; rw [HE.out] at y3; clear x1 x2)
      clear y0 y1 y2 y3
      have hR1 := HR.out.keep hb1
      have hx1 := HX.out.keep hb1
      have hq1 := HQ.out.keep hb1
      have hB1 := HB.out.trans (hb1.mono (by have := HX.out.lt; omega))
      have hsz1 := hq1.lt
      clear hb1 u0 u1
      obtain ⟨u0, u1⟩ := ref_cells hx1
      have uf := hx1.frozen 1
      have R1 := Lib.hid (And.intro hR1 (And.intro hx1 (And.intro hq1 hB1)))
      clear hR1 hx1 hq1 hB1 HR HX HQ HB
      go_upto_region 3 with fail
      generalize hW4 : World.setCell _ _ _ = W4
      have n1 : a1 + 1 ≠ a1 := by omega
      have hx4 : Row W4 a1 30 2 (refR b c (slipW s)) := by
        rw [← hW4]
        exact (R1.out.2.1.set_ 1 _).congr fun j hj => by
          match j, hj with
          | 0, _ => rfl
          | 1, _ => rfl
      have hq4 : Row W4 (a1 + 1) 30 2 (fun j => match j with | 0 => .slice none 0 0 | _ => .int .i64 0) := by
        rw [← hW4]
        exact R1.out.2.2.1.far n1 _
      have hB4 : Below a1 w W4 := by
        rw [← hW4]
        exact R1.out.2.2.2.setCell (Nat.le_refl _) _
      clear hW4 u0 u1 uf
      have HF2 : Hid (∀ w', Only (fun x => x = a1 + 1) W4 w' → RefDone F w (slipW s) false (.returned (.tuple #[.agg (rowOf 2 (refR b c (slipW s))), .bool false])) w') := Lib.hid fun w' ho => by
        have hb' : Below a1 w w' := Below.only hB4 ho (Nat.le_of_lt hx4.lt) (fun x e => by have e' : x = a1 + 1 := e; omega)
        exact ⟨b, c, Bk, Cp, rfl, (HR0.out.keep (by rw [HZ.out]; exact hb')).congr rfl rfl (fun _ _ _ _ => ⟨rfl, rfl⟩), by rw [HZ.out]; exact hb'⟩
      obtain ⟨u0, u1⟩ := ref_cells hx4
      have f2 : #[Value.slice (some ⟨b, 0, none⟩) (slipW s).levels c, .int .i64 (slipW s).slips] = rowOf 2 (refR b c (slipW s)) := rfl
      have F1 := Lib.hid (refR_one b c (slipW s))
      have HQ4 := Lib.hid hq4
      clear hq4 hB4 hx4 R1
      go_wp2_with (refine wpList_store_row rfl 30 _ _ rfl (a1 + 1) (rowOf 2 (refR b c (slipW s))) rfl rfl 30 (rowOf 2 (fun j => match j with | 0 => .slice none 0 0 | _ => .int .i64 0)) HQ4.out (by kernel_rfl) rfl F1.out ?_)
      exact bodyPost_ret (results_row_tmp (p := 6) (u := 7) (ty := 30) (by kernel_rfl) _ _ (a1 + 1) 30 (rowOf 2 (refR b c (slipW s))) (0, 0) _ rfl (Row.setRow_ HQ4.out _) Try.underlying30 rfl (by kernel_rfl)) rfl
        (HF2.out _ (only_setRow _ _ _))
set_option maxHeartbeats 4000000 in
theorem rDrop_any (l j : Int) (hl : inI l) (hj : inI j) : Calls Try.prog 21 #[.agg #[.slice (some ⟨b, 0, none⟩) s.levels c, .int .i64 s.slips], .int .i64 l, .int .i64 j] w (RefDone F w (dropW s l j) (s.held l j)) := by
  have b1 := hs.l4
  have b3 := hs.s60
  have b4 := hs.slip
  have C1 := Lib.hid fun W hr' => rThere_any F b c Bk Cp s N hs W hr' l j
  cases hh : hasB s l j
  · have e1 : s.held l j = false := by
      cases h2 : s.held l j
      · rfl
      · rw [hs.in_ _ _ h2] at hh; cases hh
    have e2 : dropW s l j = slipW s := by unfold dropW; rw [e1]; rfl
    rw [hh] at C1
    rw [e1, e2]
    clear e1 e2 hh hs hF
    go_enter Try.func21, Try.ntmps21
    go_upto_region 1 with fail
    generalize hW : World.alloc _ _ = W
    obtain ⟨hB, hx, hq⟩ := two_blocks w 30 30 2 2 (refR b c s) (fun j => match j with | 0 => .slice none 0 0 | _ => .int .i64 0) W hW
    clear hW
    have hR := hr.keep hB
    generalize hz : w.heap.size = a1 at *
    have HZ := Lib.hid hz; clear hz
    obtain ⟨u0, u1⟩ := ref_cells hx
    have HR := Lib.hid hR; have HB := Lib.hid hB; have HX := Lib.hid hx; have HQ := Lib.hid hq
    have HR0 := Lib.hid hr
    clear hr hR hB hx hq
    go_upto_region 2 with (go_at_call 24; refine (C1.out _ HR.out).mono ?_; rintro e w1 ⟨rfl, hb1⟩)
    have hR1 := HR.out.keep hb1
    have hx1 := HX.out.keep hb1
    have hq1 := HQ.out.keep hb1
    have hB1 := HB.out.trans (hb1.mono (by have := HX.out.lt; omega))
    have hsz1 := hq1.lt
    clear hb1 u0 u1
    obtain ⟨u0, u1⟩ := ref_cells hx1
    have uf := hx1.frozen 1
    have R1 := Lib.hid (And.intro hR1 (And.intro hx1 (And.intro hq1 hB1)))
    clear hR1 hx1 hq1 hB1 HR HX HQ HB
    go_upto_region 3 with fail
    generalize hW4 : World.setCell _ _ _ = W4
    have n1 : a1 + 1 ≠ a1 := by omega
    have hx4 : Row W4 a1 30 2 (refR b c (slipW s)) := by
      rw [← hW4]
      exact (R1.out.2.1.set_ 1 _).congr fun j hj => by
        match j, hj with
        | 0, _ => rfl
        | 1, _ => rfl
    have hq4 : Row W4 (a1 + 1) 30 2 (fun j => match j with | 0 => .slice none 0 0 | _ => .int .i64 0) := by
      rw [← hW4]
      exact R1.out.2.2.1.far n1 _
    have hB4 : Below a1 w W4 := by
      rw [← hW4]
      exact R1.out.2.2.2.setCell (Nat.le_refl _) _
    clear hW4 u0 u1 uf
    have HF2 : Hid (∀ w', Only (fun x => x = a1 + 1) W4 w' → RefDone F w (slipW s) false (.returned (.tuple #[.agg (rowOf 2 (refR b c (slipW s))), .bool false])) w') := Lib.hid fun w' ho => by
      have hb' : Below a1 w w' := Below.only hB4 ho (Nat.le_of_lt hx4.lt) (fun x e => by have e' : x = a1 + 1 := e; omega)
      exact ⟨b, c, Bk, Cp, rfl, (HR0.out.keep (by rw [HZ.out]; exact hb')).congr rfl rfl (fun _ _ _ _ => ⟨rfl, rfl⟩), by rw [HZ.out]; exact hb'⟩
    obtain ⟨u0, u1⟩ := ref_cells hx4
    have f2 : #[Value.slice (some ⟨b, 0, none⟩) (slipW s).levels c, .int .i64 (slipW s).slips] = rowOf 2 (refR b c (slipW s)) := rfl
    have F1 := Lib.hid (refR_one b c (slipW s))
    have HQ4 := Lib.hid hq4
    clear hq4 hB4 hx4 R1
    go_wp2_with (refine wpList_store_row rfl 30 _ _ rfl (a1 + 1) (rowOf 2 (refR b c (slipW s))) rfl rfl 30 (rowOf 2 (fun j => match j with | 0 => .slice none 0 0 | _ => .int .i64 0)) HQ4.out (by kernel_rfl) rfl F1.out ?_)
    exact bodyPost_ret (results_row_tmp (p := 6) (u := 7) (ty := 30) (by kernel_rfl) _ _ (a1 + 1) 30 (rowOf 2 (refR b c (slipW s))) (0, 0) _ rfl (Row.setRow_ HQ4.out _) Try.underlying30 rfl (by kernel_rfl)) rfl
      (HF2.out _ (only_setRow _ _ _))
  · have hin := hasB_iff.1 hh
    obtain ⟨k, rfl⟩ : ∃ k : Nat, l = k := ⟨l.toNat, by omega⟩
    obtain ⟨i, rfl⟩ : ∃ i : Nat, j = i + 1 := ⟨j.toNat - 1, by omega⟩
    have hk : k < s.levels := by omega
    have hi : i < s.slots := by omega
    have t1 : decide (k < s.levels) = true := by simp [hk]
    have t2 : decide (i < s.slots) = true := by simp [hi]
    rw [hh] at C1
    cases h2 : s.held k ((i : Int) + 1)
    · have e2 : dropW s k ((i : Int) + 1) = slipW s := by unfold dropW; rw [h2]; rfl
      rw [e2]
      have HE := Lib.hid h2
      clear e2 hh h2 hin hs hF
      go_enter Try.func21, Try.ntmps21
      go_upto_region 1 with fail
      generalize hW : World.alloc _ _ = W
      obtain ⟨hB, hx, hq⟩ := two_blocks w 30 30 2 2 (refR b c s) (fun j => match j with | 0 => .slice none 0 0 | _ => .int .i64 0) W hW
      clear hW
      have hR := hr.keep hB
      generalize hz : w.heap.size = a1 at *
      have HZ := Lib.hid hz; clear hz
      obtain ⟨u0, u1⟩ := ref_cells hx
      have HR := Lib.hid hR; have HB := Lib.hid hB; have HX := Lib.hid hx; have HQ := Lib.hid hq
      have HR0 := Lib.hid hr
      clear hr hR hB hx hq
      go_upto_region 2 with (go_at_call 24; refine (C1.out _ HR.out).mono ?_; rintro e w1 ⟨rfl, hb1⟩; have x1 := HX.out.keep hb1; have x2 := HR.out.keep hb1; obtain ⟨y0, y1⟩ := ref_cells x1; have y2 := x2.row k hk; have y3 := (x2.cell k i hk hi).1; rw [HE.out] at y3; clear x1 x2)
      clear y0 y1 y2 y3
      have hR1 := HR.out.keep hb1
      have hx1 := HX.out.keep hb1
      have hq1 := HQ.out.keep hb1
      have hB1 := HB.out.trans (hb1.mono (by have := HX.out.lt; omega))
      have hsz1 := hq1.lt
      clear hb1 u0 u1
      obtain ⟨u0, u1⟩ := ref_cells hx1
      have uf := hx1.frozen 1
      have R1 := Lib.hid (And.intro hR1 (And.intro hx1 (And.intro hq1 hB1)))
      clear hR1 hx1 hq1 hB1 HR HX HQ HB
      go_upto_region 3 with fail
      generalize hW4 : World.setCell _ _ _ = W4
      have n1 : a1 + 1 ≠ a1 := by omega
      have hx4 : Row W4 a1 30 2 (refR b c (slipW s)) := by
        rw [← hW4]
        exact (R1.out.2.1.set_ 1 _).congr fun j hj => by
          match j, hj with
          | 0, _ => rfl
          | 1, _ => rfl
      have hq4 : Row W4 (a1 + 1) 30 2 (fun j => match j with | 0 => .slice none 0 0 | _ => .int .i64 0) := by
        rw [← hW4]
        exact R1.out.2.2.1.far n1 _
      have hB4 : Below a1 w W4 := by
        rw [← hW4]
        exact R1.out.2.2.2.setCell (Nat.le_refl _) _
      clear hW4 u0 u1 uf
      have HF2 : Hid (∀ w', Only (fun x => x = a1 + 1) W4 w' → RefDone F w (slipW s) false (.returned (.tuple #[.agg (rowOf 2 (refR b c (slipW s))), .bool false])) w') := Lib.hid fun w' ho => by
        have hb' : Below a1 w w' := Below.only hB4 ho (Nat.le_of_lt hx4.lt) (fun x e => by have e' : x = a1 + 1 := e; omega)
        exact ⟨b, c, Bk, Cp, rfl, (HR0.out.keep (by rw [HZ.out]; exact hb')).congr rfl rfl (fun _ _ _ _ => ⟨rfl, rfl⟩), by rw [HZ.out]; exact hb'⟩
      obtain ⟨u0, u1⟩ := ref_cells hx4
      have f2 : #[Value.slice (some ⟨b, 0, none⟩) (slipW s).levels c, .int .i64 (slipW s).slips] = rowOf 2 (refR b c (slipW s)) := rfl
      have F1 := Lib.hid (refR_one b c (slipW s))
      have HQ4 := Lib.hid hq4
      clear hq4 hB4 hx4 R1
      go_wp2_with (refine wpList_store_row rfl 30 _ _ rfl (a1 + 1) (rowOf 2 (refR b c (slipW s))) rfl rfl 30 (rowOf 2 (fun j => match j with | 0 => .slice none 0 0 | _ => .int .i64 0)) HQ4.out (by kernel_rfl) rfl F1.out ?_)
      exact bodyPost_ret (results_row_tmp (p := 6) (u := 7) (ty := 30) (by kernel_rfl) _ _ (a1 + 1) 30 (rowOf 2 (refR b c (slipW s))) (0, 0) _ rfl (Row.setRow_ HQ4.out _) Try.underlying30 rfl (by kernel_rfl)) rfl
        (HF2.out _ (only_setRow _ _ _))
    · have e2 : dropW s k ((i : Int) + 1) = delW s k ((i : Int) + 1) := by unfold dropW; rw [h2]; rfl
      have hgn1 := hs.gens k (i + 1)
      rw [e2]
      have HE := Lib.hid h2
      have HS := Lib.hid hs
      have HF := Lib.hid hF
      clear e2 hh h2 hin hs hF
      go_enter Try.func21, Try.ntmps21
      go_upto_region 1 with fail
      generalize hW : World.alloc _ _ = W
      obtain ⟨hB, hx, hq⟩ := two_blocks w 30 30 2 2 (refR b c s) (fun j => match j with | 0 => .slice none 0 0 | _ => .int .i64 0) W hW
      clear hW
      have hR := hr.keep hB
      generalize hz : w.heap.size = a1 at *
      have HZ := Lib.hid hz; clear hz
      obtain ⟨u0, u1⟩ := ref_cells hx
      have HR := Lib.hid hR; have HB := Lib.hid hB; have HX := Lib.hid hx; have HQ := Lib.hid hq
      have HR0 := Lib.hid hr
      clear hr hR hB hx hq
      go_upto_region 4 with (go_at_call 24; refine (C1.out _ HR.out).mono ?_; rintro e w1 ⟨rfl, hb1⟩; have x1 := HX.out.keep hb1; have x2 := HR.out.keep hb1; obtain ⟨y0, y1⟩ := ref_cells x1; have y2 := x2.row k hk; obtain ⟨y3, y4⟩ := x2.cell k i hk hi; rw [HE.out] at y3; clear x1 x2)
      generalize hgn : s.gen k (i + 1) = gn at *
      have HG := Lib.hid hgn
      clear hgn
      go_upto_region 5 with fail
      generalize hW2 : World.alloc _ _ = W2
      have hb2 : Below w1.heap.size w1 W2 := by rw [← hW2]; exact (Below.refl _ _).alloc (Nat.le_refl _) _
      have hs2 : Row W2 w1.heap.size 61 2 (slotR true gn) := by rw [← hW2]; exact Row.new _ _ _ _ _ rfl
      clear hW2 y0 y1 y2 y3 y4 u0 u1
      have hx2 := (HX.out.keep hb1).keep hb2
      have hq2 := (HQ.out.keep hb1).keep hb2
      have hB2 : Below a1 w W2 := (HB.out.trans (hb1.mono (by have := HX.out.lt; omega))).trans (hb2.mono (by have := (HX.out.keep hb1).lt; omega))
      have hR2 := (HR0.out.and (G := fun x => x = a1 + 1) (fun x hx => by rw [HZ.out] at hx; show ¬ x = a1 + 1; omega)).keep (by rw [HZ.out]; exact hB2)
      have hlt2 := hx2.lt
      obtain ⟨u0, u1⟩ := ref_cells hx2
      have v0 : W2.cell? ⟨w1.heap.size, 0, none⟩ = some (.bool true) := hs2.cell (i := 0) (by omega)
      have v1 : W2.cell? ⟨w1.heap.size, 1, none⟩ = some (.int .i64 gn) := hs2.cell (i := 1) (by omega)
      have CS : Calls Try.prog 33 #[.agg #[.slice (some ⟨b, 0, none⟩) s.levels c, .int .i64 s.slips], .int .i64 k, .int .i64 ((i : Int) + 1), .agg #[.bool false, .int .i64 ((gn : Int) + 1)]] W2
          fun e w' => ∃ b' c' Bk' Cp', e = .returned (.agg #[.slice (some ⟨b', 0, none⟩) s.levels c', .int .i64 s.slips]) ∧ RefIs (fun x => F x ∨ x = a1 + 1) w' b' Bk' Cp' (setW s k (i + 1) false (gn + 1)) ∧ Below W2.heap.size W2 w' :=
        rSet_any (fun x => F x ∨ x = a1 + 1) b c Bk Cp s N HS.out W2 hR2 (fun x hx => hx.elim (fun hx => by have := HF.out x hx; omega) (fun hx => by have := hq2.lt; omega)) k i hk hi false (gn + 1)
      have HCS := Lib.hid CS
      have H2 := Lib.hid (And.intro hq2 hB2)
      clear CS hs2 hx2 hq2 hR2 hB2 hb1 hb2 HX HQ HR HB
      generalize w1.heap.size = a2 at *
      go_wp2_with (first | (go_at_call 33; refine (HCS.out).mono ?_; rintro e w3 ⟨b', c', Bk', Cp', rfl, hR3, hb3⟩; have hq3 := H2.out.1.keep hb3) | (refine wpList_store_row rfl 30 _ _ rfl (a1 + 1) (rowOf 2 (refR b' c' s)) rfl rfl 30 (rowOf 2 (fun j => match j with | 0 => .slice none 0 0 | _ => .int .i64 0)) hq3 (by kernel_rfl) rfl (refR_one b' c' s) ?_))
      have ho := only_setRow w3 (a1 + 1) (rowOf 2 (refR b' c' s))
      have hB3 : Below a1 w w3 := H2.out.2.trans (hb3.mono (Nat.le_of_lt hlt2))
      have hR4 : RefIs F (w3.setRow (a1 + 1) (rowOf 2 (refR b' c' s))) b' Bk' Cp' (setW s k (i + 1) false (gn + 1)) := (hR3.only (ho.mono fun _ _ e => Or.inr e)).weak fun _ e => Or.inl e
      exact bodyPost_ret (results_row_tmp (p := 6) (u := 7) (ty := 30) (by kernel_rfl) _ _ (a1 + 1) 30 (rowOf 2 (refR b' c' s)) (0, 0) _ rfl (Row.setRow_ hq3 _) Try.underlying30 rfl (by kernel_rfl)) rfl
        ⟨b', c', Bk', Cp', rfl, hR4.congr rfl rfl (fun x y _ _ => del_set s k i x y HE.out HG.out), by rw [HZ.out]; exact Below.only hB3 ho (by have := hq3.lt; omega) (fun x e => by have e' : x = a1 + 1 := e; omega)⟩
end
end Go.Proofs.Ytlldhkcimlmaoaa
