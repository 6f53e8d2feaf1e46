/- slices.SortFunc on spots, by hist.inOrder. -/
import Derived.Test.YtckcliimngeieaaInOrder
namespace Go.Proofs.Ytckcliimngeieaa
open Go.ChangeShapes Go.WideShapes Go.ChangeAt Go.RowKit

def sortS (L : List Spt) : List Spt := L.mergeSort fun x y => !(Go.Proofs.ltOf cmpS) y x
theorem sortS_perm (L : List Spt) : (sortS L).Perm L := List.mergeSort_perm _ _
theorem sortS_len (L : List Spt) : (sortS L).length = L.length := (sortS_perm L).length_eq
theorem flatK_toList (L : List Spt) : (Go.Sort.flatK spF 3 L.toArray).toList = flatF spF L := by
  apply List.ext_getElem?
  intro i
  by_cases hi : i < L.length * 3
  · have h1 : (Go.Sort.flatK spF 3 L.toArray)[i]! = (spF (L.toArray[i / 3]!))[i % 3]! := Go.Sort.get_flatK _ _ _ _ (by simpa using hi)
    have hq : i / 3 < L.length := by omega
    have h2 := flatF_get spF_len L (i / 3) (i % 3) hq (by omega)
    rw [show i / 3 * 3 + i % 3 = i by omega] at h2
    rw [h2]
    have hs : i < (Go.Sort.flatK spF 3 L.toArray).size := by simpa using hi
    rw [getElem!_pos _ i hs] at h1
    rw [Array.getElem?_toList, Array.getElem?_eq_getElem hs, h1]
    have h3 : L.toArray[i / 3]! = L.getD (i / 3) default := by simp [List.getD, hq]
    rw [h3]
    have h4 : i % 3 < (spF (L.getD (i / 3) default)).length := by rw [spF_len]; omega
    rw [getElem!_pos (spF (L.getD (i / 3) default)) (i % 3) h4, List.getElem?_eq_getElem h4]
  · rw [Array.getElem?_toList, Array.getElem?_eq_none (by simp; omega), List.getElem?_eq_none (by rw [flatF_length spF_len]; omega)]

theorem cmpLays_any (blk off size : Nat) (w : World) : CmpLays Try.prog 22 #[] spF 3 cmpS blk off size w := fun _ _ _ _ x y => inOrder_any x y _

/-- The row of a slice of its own, sorted; all else as it was. -/
theorem sort_any (w : World) (base g cap : Nat) (L : List Spt) (hL : L.length ≤ 1000000) (h : w.ownsRow base 54 3 (.slice (some ⟨g, 0, none⟩) L.length cap) L.length (flatF spF L)) :
    Calls Try.prog 28 #[.slice (some ⟨g, 0, none⟩) L.length cap, .func (.func 22) #[] #[]] w fun e w' => e = .returned (.tuple #[]) ∧
      w'.ownsRow base 54 3 (.slice (some ⟨g, 0, none⟩) L.length cap) L.length (flatF spF (sortS L)) ∧ Only (fun i => i = g) w w' := by
  have hb := own_blockAt h
  have hH : Go.Sort.HoldsK spF 3 w g 0 L.toArray := by
    intro j hj
    have hj' : j < L.length * 3 := by simpa using hj
    have hs : j < (Go.Sort.flatK spF 3 L.toArray).size := hj
    rw [Nat.zero_add, getElem!_pos _ j hs]
    refine ⟨own_cellAt h ?_, own_frozenAt h j⟩
    rw [← flatK_toList, Array.getElem?_toList, Array.getElem?_eq_getElem hs]
    rfl
  have hc := AnyQ.slices_SortFunc_total Try.laysSort 3 Try.isAgg54 Try.sizeOf54 spF spF_len spF_one cmpS swoS 22 #[] g 0 cap L.toArray w (enters_of Try.func22 (by kernel_rfl) rfl) (cmpLays_any g 0 _ w) hH hb.2 (by simp; omega) totS
  refine hc.mono ?_
  rintro e w' ⟨rfl, n, os, rfl⟩
  have hsz : (sortS L).toArray.size = L.toArray.size := by simp [sortS_len]
  have hgrow : w.grownBy (Go.Proofs.sortWorldK spF 3 w g 0 n (sortS L).toArray os) (some g) := by
    refine ⟨rfl, rfl, rfl, by simp [Go.Proofs.sortWorldK, Go.Sort.putRowK, Go.Sort.putRow, Go.Sort.mapBlock, Go.Sort.grow, Go.Sort.ahead], fun k hk hne => ?_⟩
    unfold Go.Proofs.sortWorldK
    rw [Go.Sort.heap_grow_old _ _ (by simpa [Go.Sort.putRowK, Go.Sort.putRow, Go.Sort.mapBlock, Go.Sort.ahead] using hk)]
    have : g ≠ k := fun e => hne (by rw [e])
    simp [Go.Sort.putRowK, Go.Sort.putRow, Go.Sort.mapBlock, Go.Sort.ahead, Array.getElem?_modify, this]
  have ho : Only (fun i => i = g) w (Go.Proofs.sortWorldK spF 3 w g 0 n (sortS L).toArray os) :=
    ⟨(Below.refl 0 w).grown hgrow (Nat.zero_le _) (fun _ _ => Nat.zero_le _), fun i hi hn => hgrow.block i hi (fun e => hn (Option.some.inj e))⟩
  refine ⟨rfl, ?_, ho⟩
  rcases h.2 with ⟨h1, _⟩ | ⟨g', cap', cur, h1, h2, h3, h4, h5, h6, h7⟩
  · cases h1
  · cases h1
    have hF : (Go.Sort.flatK spF 3 (sortS L).toArray).toList = flatF spF (sortS L) := flatK_toList _
    have hFs : (Go.Sort.flatK spF 3 (sortS L).toArray).size = L.length * 3 := by simp [sortS_len]
    have hh : (Go.Proofs.sortWorldK spF 3 w g 0 n (sortS L).toArray os).heap[g]? = some (.cells (Go.Sort.putCells id 0 (Go.Sort.flatK spF 3 (sortS L).toArray) cur) 54 (0, 0)) := by
      unfold Go.Proofs.sortWorldK
      rw [Go.Sort.heap_grow_old _ _ (by simpa [Go.Sort.putRowK, Go.Sort.putRow, Go.Sort.mapBlock, Go.Sort.ahead] using hb.2)]
      simp only [Go.Sort.putRowK, Go.Sort.putRow, Go.Sort.mapBlock, Go.Sort.ahead, Array.getElem?_modify, h3]
      rfl
    refine ⟨by rw [flatF_length spF_len, sortS_len], .inr ⟨g, cap, _, rfl, h2, hh, h4, h5, by simp [Go.Sort.putCells, h6], ?_⟩⟩
    rw [← hF]
    generalize Go.Sort.flatK spF 3 (sortS L).toArray = Fl at *
    have hc3 : L.length * 3 ≤ cap * 3 := Nat.mul_le_mul_right 3 h4
    apply List.ext_getElem?
    intro j
    rw [List.getElem?_take]
    by_cases hj : j < L.length * 3
    · rw [if_pos hj, Array.getElem?_toList, Array.getElem?_toList]
      have hjc : j < cur.size := by omega
      simp only [Go.Sort.putCells, Array.getElem?_mapIdx, Array.getElem?_eq_getElem hjc, Option.map_some]
      rw [if_pos ⟨Nat.zero_le _, by omega⟩, Nat.sub_zero, getElem!_pos Fl j (by omega), Array.getElem?_eq_getElem (show j < Fl.size by omega)]
      rfl
    · rw [if_neg hj, Array.getElem?_toList, Array.getElem?_eq_none (by omega)]
theorem sort_none (c : Nat) (fv : Value) (w : World) : Calls Try.prog 28 #[.slice none 0 c, fv] w fun e w' => e = .returned (.tuple #[]) ∧ w' = w :=
  AnyF.slices_SortFunc_none Try.laysSort none c fv w
end Go.Proofs.Ytckcliimngeieaa
