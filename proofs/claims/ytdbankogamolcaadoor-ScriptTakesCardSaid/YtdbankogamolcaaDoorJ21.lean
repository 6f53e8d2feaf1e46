/- A slice of bytes as an argument: as a list of bytes that lies. · What package api says of a call's cells. · A script in a block of the call's own, each of its slices a row of the call's own: one of them grown at a time. -/
import Derived.Test.YtdbankogamolcaaDoorJ0
import Derived.Test.YtdbankogamolcaaDoorJ8
import Derived.Test.YtdbankogamolcaaDoorJ11
import Derived.Test.YtdbankogamolcaaDoorJ4
namespace Go.Proofs.YtdbankogamolcaaDoor
set_option linter.unusedSimpArgs false
set_option linter.unusedVariables false
open Go.ChangeShapes Go.WideShapes Go.ChangeAt Go.RowKit

section
variable {H : Type} {enc : TypeId × Value → H} {P : Program} {w : World} {base : Nat}
theorem open_byt {t e : TypeId} {r : Reach} {b0 : Nat} {v : Value} {d : DataW H} {ps : List MemPlace} (ht : P.underlying t = some (.slice e)) (he : P.underlying e = some (.int .u8)) (hc : P.cellsOf e = 1)
    (hval : Value.okWide P w r b0 t v) (h : DataW.Trod enc P w base (fun _ => true) true t v d ps) :
    ∃ (A : Option Addr) (c : Nat) (L : List Int), v = .slice A L.length c ∧ L.length ≤ 9223372036854775807 ∧ Byt L ∧ LiesC w A (flatB L) := by
  obtain ⟨A, n, c, l, rfl, rfl, hn, hw, hr⟩ := open_ints_row ht he hc hval h
  have hb : ∀ i, 0 ≤ l.getD i 0 ∧ l.getD i 0 < 256 := fun i => by
    have h := wf_getD hw (by decide) i
    simp [Lit.wf, IntKind.min, IntKind.max, IntKind.signed, IntKind.bits] at h
    simp only [List.getD]
    omega
  refine ⟨A, c, l, rfl, hn, fun i => by have := hb i; omega, ?_⟩
  rcases Nat.eq_zero_or_pos l.length with h0 | h0
  · left
    rw [List.eq_nil_of_length_eq_zero h0]; rfl
  · obtain ⟨b, off, rfl, hbl, hx⟩ := hr h0
    refine .inr ⟨b, off, rfl, hbl, fun j v hj => ?_⟩
    have hjl : j < l.length := by
      have := (List.getElem?_eq_some_iff.1 hj).1
      simpa [flatB] using this
    rw [hx j hjl, ← hj, flatB_get l j hjl]
end
end Go.Proofs.YtdbankogamolcaaDoor
namespace Go.Proofs.YtdbankogamolcaaDoor
set_option linter.unusedSimpArgs false
set_option linter.unusedVariables false
open Go.ChangeShapes Go.WideShapes Go.ChangeAt Go.RowKit

theorem infoCl : ∃ i0, Tryd.prog.info? 61 = some i0 ∧ i0.zero = some (.agg (clF zeroCl).toArray) ∧ i0.size = 7 ∧ i0.bytes = 56 := by
  have h : (Tryd.prog.info? 61).map (fun i => (i.zero, i.size, i.bytes)) = some (some (.agg (clF zeroCl).toArray), 7, 56) := by kernel_rfl
  obtain ⟨i0, h1, h2⟩ := Option.map_eq_some_iff.1 h
  simp only [Prod.mk.injEq] at h2
  exact ⟨i0, h1, h2⟩
end Go.Proofs.YtdbankogamolcaaDoor
namespace Go.Proofs.YtdbankogamolcaaDoor
set_option linter.unusedSimpArgs false
set_option linter.unusedVariables false
open Go.ChangeShapes Go.WideShapes Go.ChangeAt Go.RowKit

def tkT (k : Nat) : TypeId := if k < 8 then 61 else 51
def tkN (k : Nat) : Nat := if k < 8 then 7 else 2
def tkL (s : Scr) (k : Nat) : Nat := if k < 8 then (s.p k).length else s.e.length
def tkC (s : Scr) (k : Nat) : List Value := if k < 8 then flatF clF (s.p k) else flatF entF s.e
theorem tk_clT {k : Nat} (h : k < 8) : tkT k = 61 ∧ tkN k = 7 := by unfold tkT tkN; rw [if_pos h, if_pos h]; exact ⟨rfl, rfl⟩
theorem tk_cl {k : Nat} (h : k < 8) (s : Scr) : tkL s k = (s.p k).length ∧ tkC s k = flatF clF (s.p k) := by unfold tkL tkC; rw [if_pos h, if_pos h]; exact ⟨rfl, rfl⟩
theorem zeroF_is (w : World) : ScrIs w zeroF noScr where
  conf := fun i hi => by
    match i, hi with
    | 0, _ | 1, _ | 2, _ | 3, _ | 4, _ | 5, _ | 6, _ | 7, _ | 8, _ | 9, _ | 10, _ | 11, _ | 12, _ | 13, _ => rfl
  prog := fun t ht => by
    match t, ht with
    | 0, _ | 1, _ | 2, _ | 3, _ | 4, _ | 5, _ | 6, _ | 7, _ => exact ⟨none, 0, rfl, .inl rfl⟩
  ents := ⟨none, 0, rfl, .inl rfl⟩
/-- A script within the making: the result in block q, the script in block g, its lists in rows from B on. -/
structure TkR (w : World) (q g B : Nat) (s : Scr) (F : Nat → Value) (W : World) : Prop where
  sz : w.heap.size = q
  bel : Below q w W
  low : q < g
  lt : g < B
  le : B ≤ W.heap.size
  res : Row W q 29 23 zeroF
  row : Row W g 29 23 F
  conf : ∀ i, i < 14 → F i = .int .i64 (s.c i)
  own : ∀ k, k < 9 → W.ownsRow B (tkT k) (tkN k) (F (14 + k)) (tkL s k) (tkC s k)
  ne : ∀ j k, j < 9 → k < 9 → j ≠ k → ∀ b, (F (14 + j)).ownBlock = some b → (F (14 + k)).ownBlock ≠ some b
section
variable {w W W' w4 : World} {q g B : Nat} {s s' : Scr} {F : Nat → Value}
theorem TkR.qle (h : TkR w q g B s F W) : q ≤ W.heap.size := by have := h.low; have := h.lt; have := h.le; omega
theorem TkR.keep (h : TkR w q g B s F W) (hb : Below W.heap.size W W') : TkR w q g B s F W' :=
  ⟨h.sz, h.bel.trans (hb.mono h.qle), h.low, h.lt, Nat.le_trans h.le hb.size, h.res.keep hb, h.row.keep hb, h.conf, fun k hk => own_keep (h.own k hk) hb, h.ne⟩
theorem TkR.drew (h : TkR w q g B s F W) : TkR w q g B s F W.drew := h.keep (Below.refl _ _).drew
theorem TkR.alloc (h : TkR w q g B s F W) (o : Obj) : TkR w q g B s F (W.alloc o) := h.keep ((Below.refl _ _).alloc (Nat.le_refl _) o)
theorem TkR.ownC (h : TkR w q g B s F W) {t : Nat} (ht : t < 8) : W.ownsRow B 61 7 (F (14 + t)) (s.p t).length (flatF clF (s.p t)) := by
  have := h.own t (by omega)
  rwa [(tk_clT ht).1, (tk_clT ht).2, (tk_cl ht s).1, (tk_cl ht s).2] at this
theorem TkR.ownE (h : TkR w q g B s F W) : W.ownsRow B 51 2 (F 22) s.e.length (flatF entF s.e) := h.own 8 (by omega)
theorem TkR.is (h : TkR w q g B s F W) : ScrIs W F s := ⟨h.conf, fun t ht => SlC.of (lnIs_of_own (h.ownC ht)), SlC.of (lnIs_of_own h.ownE)⟩
theorem TkR.at_ (h : TkR w q g B s F W) : ScrAt g F s W := ⟨h.row, h.is⟩
theorem TkR.grownRow (h : TkR w q g B s F W) {k : Nat} (hk : k < 9) (hg : W.grownBy w4 (F (14 + k)).ownBlock) : Row w4 g 29 23 F :=
  h.row.grown hg fun e => by have := ((h.own k hk).lt _ e).1; have := h.lt; omega
theorem TkR.grownRes (h : TkR w q g B s F W) {k : Nat} (hk : k < 9) (hg : W.grownBy w4 (F (14 + k)).ownBlock) : Row w4 q 29 23 zeroF :=
  h.res.grown hg fun e => by have := ((h.own k hk).lt _ e).1; have := h.lt; have := h.low; omega
/-- What a script is stays where the result is stored. -/
theorem TkR.is_set (h : TkR w q g B s F W) (cs : Array Value) : ScrIs (W.setRow q cs) F s := by
  have hne : ∀ b, q = b → ¬ B ≤ b := fun b e => by have := h.low; have := h.lt; omega
  have ho : Only (fun i => i = q) W (W.setRow q cs) := only_setRow (F := fun i => i = q) (Only.refl _ W) rfl cs
  refine ⟨h.conf, fun t ht => SlC.of ((lnIs_of_own (h.ownC ht)).only ho fun b hb => ?_), SlC.of ((lnIs_of_own h.ownE).only ho fun b hb => ?_)⟩
  · have := far_of_own (h.ownC ht) b hb; have := h.low; have := h.lt; omega
  · have := far_of_own h.ownE b hb; have := h.low; have := h.lt; omega
/-- Where it begins. -/
theorem tk_new {c : Nat → Int} (hs : w.heap.size = q) (hb : Below q w W) (hl : q < g) (ht : g < B) (hB : B ≤ W.heap.size) (hr : Row W q 29 23 zeroF) (ho : Row W g 29 23 F)
    (hc : ∀ i, i < 14 → F i = .int .i64 (c i)) (hn : ∀ k, k < 9 → F (14 + k) = .slice none 0 0) : TkR w q g B ⟨c, fun _ => [], []⟩ F W where
  sz := hs
  bel := hb
  low := hl
  lt := ht
  le := hB
  res := hr
  row := ho
  conf := hc
  own := fun k hk => by
    rw [hn k hk]
    by_cases h8 : k < 8
    · rw [(tk_clT h8).1, (tk_clT h8).2, (tk_cl h8 _).1, (tk_cl h8 _).2]; exact World.ownsRow_nil _ _ _ _
    · obtain rfl : k = 8 := by omega
      exact World.ownsRow_nil _ _ _ _
  ne := fun j k hj hk _ b hb => by rw [hn j hj] at hb; cases hb
theorem TkR.setC (h : TkR w q g B s F W) {i : Nat} (hi : i < 14) (x : Int) : TkR w q g B ⟨fun j => if j = i then x else s.c j, s.p, s.e⟩ (fun j => if j = i then .int .i64 x else F j) (W.setCell ⟨g, i, none⟩ (.int .i64 x)) := by
  have hlow := h.low
  have hlt := h.lt
  have hsz := h.sz
  refine ⟨h.sz, h.bel.setCell (p := ⟨g, i, none⟩) (Nat.le_of_lt hlow) _, hlow, hlt, by rw [World.size_setCell]; exact h.le, h.res.far (p := ⟨g, i, none⟩) (by show q ≠ g; omega) _, h.row.set_ _ _, fun j hj => ?_, fun k hk => ?_, fun j k hj hk hne b => ?_⟩
  · show (if j = i then Value.int .i64 x else F j) = .int .i64 (if j = i then x else s.c j)
    split
    · rfl
    · exact h.conf j hj
  · show (W.setCell ⟨g, i, none⟩ (.int .i64 x)).ownsRow B (tkT k) (tkN k) (if 14 + k = i then .int .i64 x else F (14 + k)) (tkL s k) (tkC s k)
    rw [if_neg (by omega)]
    exact own_setCell (h.own k hk) (fun e => by have := ((h.own k hk).lt _ e).1; simp at this; omega) _
  · show (if 14 + j = i then Value.int .i64 x else F (14 + j)).ownBlock = some b → (if 14 + k = i then Value.int .i64 x else F (14 + k)).ownBlock ≠ some b
    rw [if_neg (by omega), if_neg (by omega)]
    exact h.ne j k hj hk hne b
theorem TkR.next (h : TkR w q g B s F W) {j m : Nat} {cs : List Value} {v' : Value} (hj : j < 9) (hg : W.grownBy w4 (F (14 + j)).ownBlock) (hown : w4.ownsRow B (tkT j) (tkN j) v' m cs)
    (hat : v'.ownBlock = (F (14 + j)).ownBlock ∨ v'.ownBlock = some W.heap.size) (hc : s'.c = s.c) (ho : ∀ k, k < 9 → k ≠ j → tkL s' k = tkL s k ∧ tkC s' k = tkC s k) (hm : tkL s' j = m ∧ tkC s' j = cs) :
    TkR w q g B s' (fun i => if i = 14 + j then v' else F i) (w4.setCell ⟨g, 14 + j, none⟩ v') := by
  have hlow := h.low
  have hlt := h.lt
  have hro := h.grownRow hj hg
  have hres := h.grownRes hj hg
  have hbel : Below q w w4 := below_grown h.bel hg (fun k hk => by have := ((h.own j hj).lt _ hk).1; omega) h.qle
  have hv' : v'.ownBlock ≠ some g := fun e => by have := (hown.lt _ e).1; omega
  refine ⟨h.sz, hbel.setCell (p := ⟨g, 14 + j, none⟩) (Nat.le_of_lt hlow) _, hlow, hlt, by rw [World.size_setCell]; exact Nat.le_trans h.le hg.size, hres.far (p := ⟨g, 14 + j, none⟩) (by show q ≠ g; omega) _, hro.set_ _ v', fun i hi => ?_, fun k hk => ?_, fun k1 k2 h1 h2 hne b => ?_⟩
  · show (if i = 14 + j then v' else F i) = _
    rw [if_neg (by omega), h.conf i hi, hc]
  · show (w4.setCell ⟨g, 14 + j, none⟩ v').ownsRow B (tkT k) (tkN k) (if 14 + k = 14 + j then v' else F (14 + k)) (tkL s' k) (tkC s' k)
    by_cases e : k = j
    · subst e
      rw [if_pos rfl, hm.1, hm.2]
      exact own_setCell hown hv' v'
    · rw [if_neg (by omega), (ho k hk e).1, (ho k hk e).2]
      have hne2 : (F (14 + k)).ownBlock = none ∨ (F (14 + k)).ownBlock ≠ (F (14 + j)).ownBlock := by
        rcases hx : (F (14 + k)).ownBlock with _ | b
        · exact .inl rfl
        · exact .inr fun he => h.ne k j hk hj e b hx he.symm
      have ho2 := (h.own k hk).kept hg hne2
      exact own_setCell ho2 (fun e => by have := (ho2.lt _ e).1; simp at this; omega) v'
  · show (if 14 + k1 = 14 + j then v' else F (14 + k1)).ownBlock = some b → (if 14 + k2 = 14 + j then v' else F (14 + k2)).ownBlock ≠ some b
    have hold : ∀ k, k < 9 → (F (14 + k)).ownBlock ≠ some W.heap.size := fun k hk e => by
      have := (h.own k hk).lt _ e
      omega
    by_cases e1 : k1 = j
    · subst e1
      rw [if_pos rfl, if_neg (by omega)]
      rcases hat with ha | ha
      · rw [ha]; exact h.ne k1 k2 h1 h2 hne b
      · rw [ha]; rintro ⟨⟩ e; exact hold k2 h2 e
    · rw [if_neg (by omega)]
      by_cases e2 : k2 = j
      · subst e2
        rw [if_pos rfl]
        rcases hat with ha | ha
        · rw [ha]; exact h.ne k1 k2 h1 h2 hne b
        · rw [ha]; intro e3 e4; exact hold k1 h1 (e3.trans e4.symm)
      · rw [if_neg (by omega)]; exact h.ne k1 k2 h1 h2 hne b
theorem TkR.nextC (h : TkR w q g B s F W) {t : Nat} {x : Cl} {v' : Value} (ht : t < 8) (hg : W.grownBy w4 (F (14 + t)).ownBlock) (hown : w4.ownsRow B 61 7 v' ((s.p t).length + 1) (flatF clF (s.p t) ++ clF x))
    (hat : v'.ownBlock = (F (14 + t)).ownBlock ∨ v'.ownBlock = some W.heap.size) :
    TkR w q g B ⟨s.c, setP s.p t (s.p t ++ [x]), s.e⟩ (fun i => if i = 14 + t then v' else F i) (w4.setCell ⟨g, 14 + t, none⟩ v') := by
  refine h.next (j := t) (m := (s.p t).length + 1) (cs := flatF clF (s.p t) ++ clF x) (by omega) hg (by rw [(tk_clT ht).1, (tk_clT ht).2]; exact hown) hat rfl (fun k hk e => ?_) ?_
  · unfold tkL tkC setP
    dsimp only
    split
    · first | exact ⟨rfl, rfl⟩ | (rw [if_neg e]; exact ⟨rfl, rfl⟩)
    · exact ⟨rfl, rfl⟩
  · rw [(tk_cl ht _).1, (tk_cl ht _).2]
    unfold setP
    dsimp only
    simp [flatF_append, flatF_single]
theorem TkR.nextE (h : TkR w q g B s F W) {x : Ent} {v' : Value} (hg : W.grownBy w4 (F 22).ownBlock) (hown : w4.ownsRow B 51 2 v' (s.e.length + 1) (flatF entF s.e ++ entF x))
    (hat : v'.ownBlock = (F 22).ownBlock ∨ v'.ownBlock = some W.heap.size) :
    TkR w q g B ⟨s.c, s.p, s.e ++ [x]⟩ (fun i => if i = 22 then v' else F i) (w4.setCell ⟨g, 22, none⟩ v') := by
  refine h.next (j := 8) (m := s.e.length + 1) (cs := flatF entF s.e ++ entF x) (by omega) hg hown hat rfl (fun k hk e => ?_) ?_
  · unfold tkL tkC
    rw [if_pos (by omega), if_pos (by omega), if_pos (by omega), if_pos (by omega)]
    exact ⟨rfl, rfl⟩
  · show (s.e ++ [x]).length = _ ∧ flatF entF (s.e ++ [x]) = _
    rw [flatF_append, flatF_single]
    simp
end
end Go.Proofs.YtdbankogamolcaaDoor
