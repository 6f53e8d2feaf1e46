/- What holds between two rounds of the law of layer 7. -/
import Derived.Test.YtlldhkcimlmaoaaWardLaws
namespace Go.Proofs.Ytlldhkcimlmaoaa
open Go.ChangeShapes Go.WideShapes Go.ChangeAt Go.RowKit Go.Maps

/-- The blocks that turn: the warden's, and the variable's of the document's warden. -/
def PF (g m X : Nat) : Nat → Prop := fun i => Two g m i ∨ i = X
structure PlayR (w : World) (a1 g m X b c : Nat) (Bk Cp : Nat → Nat) (s : Ward) (N : Nat) (w' : World) : Prop where
  below : Below a1 w w'
  ok : OkW s N
  ward : WardIs w' g m N s
  ref : RefIs (PF g m X) w' b Bk Cp s
  x : Row w' X 30 2 (refR b c s)
  lt1 : a1 < g
  lt2 : a1 < m
  lt3 : a1 < X
  ne1 : X ≠ g
  ne2 : X ≠ m
section
variable {w w1 w2 : World} {a1 g m X b c N : Nat} {Bk Cp : Nat → Nat} {s s2 : Ward}
theorem PlayR.keep (h : PlayR w a1 g m X b c Bk Cp s N w1) (hb : Below w1.heap.size w1 w2) : PlayR w a1 g m X b c Bk Cp s N w2 :=
  ⟨h.below.trans (hb.mono (by have := h.x.lt; have := h.lt3; omega)), h.ok, h.ward.keep hb, h.ref.keep hb, h.x.keep hb, h.lt1, h.lt2, h.lt3, h.ne1, h.ne2⟩
theorem PlayR.far (h : PlayR w a1 g m X b c Bk Cp s N w1) {F : Nat → Prop} (ho : Only F w1 w2) (hF : ∀ i, F i → a1 < i ∧ i ≠ g ∧ i ≠ m ∧ i ≠ X ∧ i ≠ b ∧ ∀ k, k < s.levels → i ≠ Bk k) : PlayR w a1 g m X b c Bk Cp s N w2 := by
  have hr : RefIs F w1 b Bk Cp s := ⟨h.ref.blk, fun e => (hF _ e).2.2.2.2.1 rfl, h.ref.row, fun i hi => ⟨(h.ref.blks i hi).1, fun e => (hF _ e).2.2.2.2.2 i hi rfl⟩, h.ref.cell⟩
  have hr2 := hr.only ho
  exact ⟨Below.only h.below ho (by have := h.x.lt; have := h.lt3; omega) (fun i hi => Nat.le_of_lt (hF i hi).1), h.ok, h.ward.only ho (fun e => (hF _ e).2.1 rfl) (fun e => (hF _ e).2.2.1 rfl), ⟨hr2.blk, h.ref.out, hr2.row, fun i hi => ⟨(hr2.blks i hi).1, (h.ref.blks i hi).2⟩, hr2.cell⟩, h.x.only ho (fun e => (hF _ e).2.2.2.1 rfl), h.lt1, h.lt2, h.lt3, h.ne1, h.ne2⟩
/-- In the midst of a round: the call was done, its answer lies at Y. -/
structure MidR (w : World) (a1 g m X b c : Nat) (Bk Cp : Nat → Nat) (s2 : Ward) (N Y : Nat) (w' : World) : Prop where
  below : Below a1 w w'
  ward : WardIs w' g m N s2
  ref : RefIs (PF g m X) w' b Bk Cp s2
  x : ∃ f, Row w' X 30 2 f
  y : Row w' Y 30 2 (refR b c s2)
  ne : Y ≠ X
/-- The answer is laid where the variable is. -/
theorem MidR.laid {Y : Nat} (h : MidR w a1 g m X b c Bk Cp s2 N Y w1) (hs : OkW s2 N) (l1 : a1 < g) (l2 : a1 < m) (l3 : a1 < X) (n1 : X ≠ g) (n2 : X ≠ m) :
    PlayR w a1 g m X b c Bk Cp s2 N ((w1.setCell ⟨X, 0, none⟩ (.slice (some ⟨b, 0, none⟩) s2.levels c)).setCell ⟨X, 1, none⟩ (.int .i64 s2.slips)) := by
  have ho : Only (fun x => x = X) w1 ((w1.setCell ⟨X, 0, none⟩ (.slice (some ⟨b, 0, none⟩) s2.levels c)).setCell ⟨X, 1, none⟩ (.int .i64 s2.slips)) := by
    refine Only.setCell (Only.setCell (Only.refl _ w1) ?_ _) ?_ _
    all_goals rfl
  obtain ⟨f, hx⟩ := h.x
  refine ⟨Below.only h.below ho (by have := hx.lt; omega) (fun i e => by have e' : i = X := e; omega), hs, h.ward.only ho (fun e => n1 (by have e' : g = X := e; omega)) (fun e => n2 (by have e' : m = X := e; omega)), h.ref.only (ho.mono fun _ _ e => Or.inr e), ?_, l1, l2, l3, n1, n2⟩
  exact ((hx.set_ 0 _).set_ 1 _).congr fun j hj => by
    match j, hj with
    | 0, _ => rfl
    | 1, _ => rfl
theorem midR_a {w3 : World} {b' c' : Nat} {Bk' Cp' : Nat → Nat} (h : PlayR w a1 g m X b c Bk Cp s N w1) (hr : RefIs (PF g m X) w3 b' Bk' Cp' s2) (hw : WardIs w3 g m (N + 1) s2) (ho : Only (Two g m) w1.drew w3) :
    MidR w a1 g m X b' c' Bk' Cp' s2 (N + 1) w3.heap.size (w3.alloc (.cells #[.slice (some ⟨b', 0, none⟩) s2.levels c', .int .i64 s2.slips] 30)) := by
  have hb : Below w3.heap.size w3 (w3.alloc (.cells #[.slice (some ⟨b', 0, none⟩) s2.levels c', .int .i64 s2.slips] 30)) := (Below.refl _ _).alloc (Nat.le_refl _) _
  have hx := h.x.drew.only ho (by rintro (e | e); exact h.ne1 e; exact h.ne2 e)
  have l1 := h.lt1
  have l2 := h.lt2
  have l3 := h.lt3
  have hB : Below a1 w w3 := Below.only h.below.drew ho (by have := h.x.lt; show a1 ≤ w1.heap.size; omega) (fun i e => by rcases e with e | e <;> omega)
  have hlt := hx.lt
  exact ⟨hB.trans (hb.mono (by omega)), hw.keep hb, hr.keep hb, ⟨_, hx.keep hb⟩, Row.new _ _ _ _ _ rfl, by omega⟩
theorem midR_b {w3 : World} {o : Obj} {z : Nat → Value} {b' c' : Nat} {Bk' Cp' : Nat → Nat} (h : PlayR w a1 g m X b c Bk Cp s N w1) (hr : RefIs (fun x => PF g m X x ∨ x = w1.heap.size) w3 b' Bk' Cp' s2) (hw : WardIs w3 g m (N + 1) s2)
    (ho : Only (Two g m) (w1.alloc o).drew w3) (hY : Row w3 w1.heap.size 30 2 z) :
    MidR w a1 g m X b' c' Bk' Cp' s2 (N + 1) w1.heap.size ((w3.setCell ⟨w1.heap.size, 0, none⟩ (.slice (some ⟨b', 0, none⟩) s2.levels c')).setCell ⟨w1.heap.size, 1, none⟩ (.int .i64 s2.slips)) := by
  have hoY : Only (fun x => x = w1.heap.size) w3 ((w3.setCell ⟨w1.heap.size, 0, none⟩ (.slice (some ⟨b', 0, none⟩) s2.levels c')).setCell ⟨w1.heap.size, 1, none⟩ (.int .i64 s2.slips)) := by
    refine Only.setCell (Only.setCell (Only.refl _ w3) ?_ _) ?_ _
    all_goals rfl
  have hx := ((h.x.alloc o).drew).only ho (by rintro (e | e); exact h.ne1 e; exact h.ne2 e)
  have l1 := h.lt1
  have l2 := h.lt2
  have l3 := h.lt3
  have hX := h.x.lt
  have hg := h.ward.row.lt
  have hm := h.ward.set.lt
  have hB : Below a1 w w3 := Below.only ((h.below.alloc (by omega) o).drew) ho (by show a1 ≤ (w1.alloc o).heap.size; simp; omega) (fun i e => by rcases e with e | e <;> omega)
  refine ⟨Below.only hB hoY (by have := hx.lt; omega) (fun i e => by have e' : i = w1.heap.size := e; omega), hw.only hoY (fun e => by have e' : g = w1.heap.size := e; omega) (fun e => by have e' : m = w1.heap.size := e; omega), (hr.only (hoY.mono fun _ _ e => Or.inr e)).weak fun _ e => Or.inl e, ⟨_, hx.only hoY (fun e => by have e' : X = w1.heap.size := e; omega)⟩, ?_, by omega⟩
  exact ((hY.set_ 0 _).set_ 1 _).congr fun j hj => by
    match j, hj with
    | 0, _ => rfl
    | 1, _ => rfl
end
end Go.Proofs.Ytlldhkcimlmaoaa
