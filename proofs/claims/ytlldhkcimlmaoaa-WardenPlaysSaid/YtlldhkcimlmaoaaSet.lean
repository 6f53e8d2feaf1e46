/- What is held: a map keyed by places, as a set of pairs of numbers. -/
import Derived.Test.YtlldhkcimlmaoaaFrame
import Derived.Maps.OwnSet
import Derived.Maps.RangeWalk
import Derived.DeepKeys4
namespace Go.Proofs.Ytlldhkcimlmaoaa
open Go.ChangeShapes Go.WideShapes Go.ChangeAt Go.RowKit Go.Maps

def inI (a : Int) : Prop := -9223372036854775808 ≤ a ∧ a ≤ 9223372036854775807
/-- A place, as a value and as a key. -/
def kP (a b : Int) : Value := .agg #[.int .i64 a, .int .i64 b]
def kL (a b : Int) : Lit := .string (keyBytes [.int .i64 a, .int .i64 b])
theorem placeWide : (match Try.prog.underlying 64 with | some (.array _ _) | some (.struct _) => true | _ => false) = true := by kernel_rfl
theorem placeLaw : Keyed Try.prog 64 := Keyed.of_law (deep_law_laid laidOut (m := 2) (by omega) (of_decide_eq_true (by kernel_rfl)) (by kernel_rfl) placeWide)
theorem wf_i64 {a : Int} (h : inI a) : (Lit.int .i64 a).wf = true := by
  unfold inI at h
  exact WalkArith.wf_i64 (by omega)
theorem placeLits (a b : Int) (ha : inI a) (hb : inI b) : Try.prog.keyLits (Try.prog.types.size + 1) 64 [.int .i64 a, .int .i64 b] = some [.int .i64 a, .int .i64 b] := by
  have h1 := wf_i64 ha
  have h2 := wf_i64 hb
  have hs : ∃ n, Try.prog.types.size = n + 1 := ⟨Try.prog.types.size - 1, by kernel_rfl⟩
  obtain ⟨n, hn⟩ := hs
  rw [hn]
  have c1 : Try.prog.cellsOf 64 = 2 := by kernel_rfl
  have c2 : Try.prog.cellsOf 3 = 1 := by kernel_rfl
  simp [Program.keyLits, Try.underlying64, Try.underlying3, c1, c2, h1, h2]
theorem keyOf_place (a b : Int) (ha : inI a) (hb : inI b) : keyOf Try.prog 64 (kP a b) = some (kL a b) := by
  have c1 : Try.prog.cellsOf 64 = 2 := by kernel_rfl
  have c3 : Try.prog.keyType 64 = true := by kernel_rfl
  have h := placeLits a b ha hb
  simp only [keyOf, Try.underlying64, c3, kP]
  have hf : (Value.agg #[.int .i64 a, .int .i64 b]).formed Try.prog 64 = true := by simp [Value.formed, Try.underlying64, c1]
  rw [hf, show (Value.agg #[.int .i64 a, .int .i64 b]).cells.toList = [.int .i64 a, .int .i64 b] from rfl, h]
  rfl
theorem keyOf_inv {key : Value} {kl : Lit} (h : keyOf Try.prog 64 key = some kl) : ∃ x : Int × Int, key = kP x.1 x.2 ∧ kl = kL x.1 x.2 ∧ inI x.1 ∧ inI x.2 := by
  obtain ⟨xs, L, rfl, hl, rfl⟩ := keyOf_top placeWide h
  have hs : ∃ n, Try.prog.types.size = n + 1 := ⟨Try.prog.types.size - 1, by kernel_rfl⟩
  obtain ⟨n, hn⟩ := hs
  rw [hn] at hl
  have c1 : Try.prog.cellsOf 64 = 2 := by kernel_rfl
  have c2 : Try.prog.cellsOf 3 = 1 := by kernel_rfl
  obtain ⟨cs⟩ := xs
  unfold Program.keyLits at hl
  simp only [Try.underlying64, c1] at hl
  split at hl
  · rename_i hlen
    match cs, hlen.1 with
    | [x, y], _ =>
      simp only [List.mapM_cons, List.mapM_nil, bind, Option.bind_eq_some_iff, pure, Option.some.injEq, Option.map_eq_some_iff] at hl
      simp [c2] at hl
      obtain ⟨_, ⟨l1, h1, _, ⟨l2, h2, rfl⟩, rfl⟩, rfl⟩ := hl
      obtain ⟨a, ea, rfl⟩ := keyLits_int' Try.underlying3 h1
      obtain ⟨b, eb, rfl⟩ := keyLits_int' Try.underlying3 h2
      have wa : (Lit.int .i64 a).keyWf := keyLits_wf h1 _ (by simp)
      have wb : (Lit.int .i64 b).keyWf := keyLits_wf h2 _ (by simp)
      simp only [List.cons.injEq, and_true] at ea eb
      subst ea; subst eb
      exact ⟨(a, b), rfl, rfl, bounds_i64 wa, bounds_i64 wb⟩
  · cases hl
theorem kL_inj {a b a' b' : Int} (ha : inI a) (hb : inI b) (ha' : inI a') (hb' : inI b') (h : kL a b = kL a' b') : a = a' ∧ b = b' := by
  have h1 := keyOf_place a b ha hb
  have h2 := keyOf_place a' b' ha' hb'
  rw [← h] at h2
  have := placeLaw.inj h1 h2
  simp [kP] at this
  exact this
theorem kL_isKey (a b : Int) : WideAt.IsKeyLit (kL a b) := trivial
theorem kL_self (a b : Int) : (kL a b).sameKey (kL a b) = true := WideAt.sameKey_self (kL_isKey a b)

/-- A map in block m, of at most n entries, that holds just the places of h. -/
def SetIs (w : World) (m n : Nat) (h : Int → Int → Bool) : Prop := ∃ D : DataW Unit, w.ownsMap Try.prog 64 unitElem m n D ∧ ∀ a b, inI a → inI b → Maps.has D (kL a b) = h a b
section
variable {w w' : World} {m n : Nat} {h : Int → Int → Bool}
theorem SetIs.keep (hs : SetIs w m n h) (hb : Below w.heap.size w w') : SetIs w' m n h := by
  obtain ⟨D, ⟨es, clock, hm, r⟩, hD⟩ := hs
  exact ⟨D, ⟨es, clock, (hb.block m (Array.getElem?_eq_some_iff.1 hm).1).trans hm, r⟩, hD⟩
theorem SetIs.lt (hs : SetIs w m n h) : m < w.heap.size := by obtain ⟨D, ho, _⟩ := hs; exact ho.lt
theorem SetIs.only (hs : SetIs w m n h) {F : Nat → Prop} (ho : Only F w w') (hn : ¬ F m) : SetIs w' m n h := by
  obtain ⟨D, ⟨es, clock, hm, r⟩, hD⟩ := hs
  exact ⟨D, ⟨es, clock, (ho.2 m (Array.getElem?_eq_some_iff.1 hm).1 hn).trans hm, r⟩, hD⟩
theorem SetIs.mono (hs : SetIs w m n h) {n' : Nat} (hn : n ≤ n') : SetIs w m n' h := by obtain ⟨D, ho, hD⟩ := hs; exact ⟨D, ho.mono hn, hD⟩
theorem SetIs.setCell (hs : SetIs w m n h) {a : Addr} (ha : m ≠ a.block) (u : Value) : SetIs (w.setCell a u) m n h := by obtain ⟨D, ho, hD⟩ := hs; exact ⟨D, ho.setCell ha u, hD⟩
/-- A block of cells is no map. -/
theorem SetIs.ne (hs : SetIs w m n h) {g k : Nat} {t : TypeId} {f : Nat → Value} (hr : Row w g t k f) : g ≠ m := by
  rintro rfl
  obtain ⟨D, ⟨es, clock, hm, _⟩, _⟩ := hs
  unfold Row at hr
  rw [hm] at hr
  cases hr
theorem SetIs.made (w : World) : SetIs (w.alloc (.map #[] 0)) w.heap.size 0 (fun _ _ => false) := ⟨.map [], World.ownsMap_made _ _ _ _, fun _ _ _ _ => rfl⟩
theorem only_turned (hm : w.mapTurned w' m) {F : Nat → Prop} (hF : F m) : Only F w w' := by
  have hg := hm.grown
  exact ⟨⟨hg.os, hg.tape, hg.output, hg.size, fun i hi => absurd hi (by omega)⟩, fun i hi hn => hg.block i hi (fun e => by cases e; exact hn hF)⟩
theorem has_put (D : DataW Unit) (hD : IsMap D) (a b a' b' : Int) (ha : inI a) (hb : inI b) (ha' : inI a') (hb' : inI b') (d : DataW Unit) :
    Maps.has (D.put (kL a b) d) (kL a' b') = (decide (a' = a ∧ b' = b) || Maps.has D (kL a' b')) := by
  by_cases e : a' = a ∧ b' = b
  · obtain ⟨rfl, rfl⟩ := e
    rw [has_put_same hD (kL_isKey _ _)]; simp
  · rw [has_put_other (fun h => e (kL_inj ha' hb' ha hb h)), decide_eq_false e, Bool.false_or]
theorem has_del (D : DataW Unit) (a b a' b' : Int) (ha : inI a) (hb : inI b) (ha' : inI a') (hb' : inI b') :
    Maps.has (D.del (kL a b)) (kL a' b') = (!decide (a' = a ∧ b' = b) && Maps.has D (kL a' b')) := by
  by_cases e : a' = a ∧ b' = b
  · obtain ⟨rfl, rfl⟩ := e
    rw [has_del_same]; simp
  · rw [has_del_other (fun h => e (kL_inj ha' hb' ha hb h)), decide_eq_false e, Bool.not_false, Bool.true_and]
end
end Go.Proofs.Ytlldhkcimlmaoaa
