/- What All hands back, called with the law's function. -/
import Derived.Test.YtajkbeihopicnaaRowAllFn
namespace Go.Proofs.Ytajkbeihopicnaa
open Go.ChangeShapes Go.WideShapes Go.ChangeAt Go.RowKit Go.Shelf

theorem only_grown {F : Nat → Prop} {w0 W W' : World} {row : Option Nat} (h : Only F w0 W) (hg : W.grownBy W' row) (hr : ∀ r, row = some r → w0.heap.size ≤ r) : Only F w0 W' :=
  ⟨h.1.grown hg (Nat.zero_le _) (fun _ _ => Nat.zero_le _), fun i hi hn => (hg.block i (Nat.lt_of_lt_of_le hi h.size) (fun e => by have := hr i e.symm; omega)).trans (h.2 i hi hn)⟩

section
variable (w3 : World) (bf bi : Nat) (want : List Rw) (x1 : Int)
def TellB (p : List Rw) (W : World) : Prop := Boxed W bf 4 (.bool (fineB want p)) ∧ Boxed W bi 2 (.int .i64 ((p.length : Nat) : Int)) ∧ Only (fun i => i = bf ∨ i = bi) w3 W
def TellJ (p : List Rw) (W : World) : Prop := TellB w3 bf bi want p W ∧ ∀ n : Nat, 1 ≤ n → n ≤ p.length → (n : Int) ≠ x1
def TellX (p : List Rw) (W : World) : Prop := TellB w3 bf bi want p W ∧ ((p.length : Nat) : Int) = x1 ∧ 1 ≤ p.length
theorem tellB_own : OwnFrom w3.heap.size (TellB w3 bf bi want) := fun s W W' row hs hg hr =>
  ⟨boxed_keep hs.1 hg (fun r e => (hr r e).2), boxed_keep hs.2.1 hg (fun r e => (hr r e).2), only_grown hs.2.2 hg (fun r e => (hr r e).1)⟩
theorem tellJ_own : OwnFrom w3.heap.size (TellJ w3 bf bi want x1) := fun s W W' row hs hg hr => ⟨tellB_own w3 bf bi want s W W' row hs.1 hg hr, hs.2⟩
theorem tellX_own : OwnFrom w3.heap.size (TellX w3 bf bi want x1) := fun s W W' row hs hg hr => ⟨tellB_own w3 bf bi want s W W' row hs.1 hg hr, hs.2⟩
end
theorem from_prefix (L : List Rw) (key : Int) (k : Nat) : fineB (fromL L key) (fromL (L.take k) key) = true ∧ (fromL (L.take k) key).length ≤ (fromL L key).length := by
  have h : fromL L key = fromL (L.take k) key ++ fromL (L.drop k) key := by
    unfold fromL
    rw [← List.filter_append, List.take_append_drop]
  constructor
  · unfold fineB
    rw [h, List.take_left]
    exact decide_eq_true rfl
  · rw [h, List.length_append]; omega

theorem seq_any (bf bi Bw Bx Bo Bk c c2 : Nat) (x0 x1 : Int) (A' A2 : Option Addr) (L : List Rw) (w3 : World) (hL : L.length ≤ 200) (hne : bf ≠ bi) (hbf : bf < w3.heap.size) (hbi : bi < w3.heap.size)
    (hB : ∀ b, b = Bw ∨ b = Bx → b ≠ bf ∧ b ≠ bi) (hA' : ∀ a, A' = some a → 0 < L.length → a.block ≠ bf ∧ a.block ≠ bi) (hA2 : ∀ a, A2 = some a → 0 < (fromL L x0).length → a.block ≠ bf ∧ a.block ≠ bi)
    (h1 : Boxed w3 bf 4 (.bool true)) (h2 : Boxed w3 bi 2 (.int .i64 0)) (hw : w3.cell? ⟨Bw, 0, none⟩ = some (.slice A2 (fromL L x0).length c2)) (hl2 : Lies w3 A2 (fromL L x0)) (hx : w3.cell? ⟨Bx, 1, none⟩ = some (.int .i64 x1))
    (hBo : w3.cell? ⟨Bo, 0, none⟩ = some (.slice A' L.length c)) (hBk : w3.cell? ⟨Bk, 0, none⟩ = some (.int .i64 x0)) (hl : Lies w3 A' L) :
    Calls Try.prog 22 #[.func (.func 16) #[] #[.pointer (some ⟨bf, 0, none⟩), .pointer (some ⟨bi, 0, none⟩), .pointer (some ⟨Bw, 0, none⟩), .pointer (some ⟨Bx, 0, none⟩)], .pointer (some ⟨Bo, 0, none⟩), .pointer (some ⟨Bk, 0, none⟩)] w3
      fun e w' => (∃ v, e = .returned v) ∧ ∃ I : Nat, Boxed w' bf 4 (.bool true) ∧ Boxed w' bi 2 (.int .i64 (I : Nat)) ∧ Only (fun i => i = bf ∨ i = bi) w3 w' ∧ I ≤ 200 ∧
        ((0 < x1 ∧ x1 < ((fromL L x0).length : Int) → (I : Int) = x1) ∧ (¬ (0 < x1 ∧ x1 < ((fromL L x0).length : Int)) → I = (fromL L x0).length)) := by
  have hlen : (fromL L x0).length ≤ L.length := by have := List.length_filter_le (fun x : Rw => decide (x0 ≤ x.k)) L; exact this
  have h0 : TellJ w3 bf bi (fromL L x0) x1 [] w3 := ⟨⟨by rw [fineB_nil]; exact h1, h2, Only.refl _ _⟩, fun n hn h => by simp at h; omega⟩
  refine (rAll1_any (fun i => i = bf ∨ i = bi) 16 _ (enters_of Try.func16 (by kernel_rfl) rfl) Bo Bk c A' L (by omega) x0 (TellJ w3 bf bi (fromL L x0) x1) (TellX w3 bf bi (fromL L x0) x1) w3
    (fun pre x W hj hp => ?_) (tellJ_own _ _ _ _ _) (tellX_own _ _ _ _ _) (fun i hi => by rcases hi with rfl | rfl <;> assumption) (fun a e h hh => by have := hA' a e h; rcases hh with hh | hh; exact this.1 hh; exact this.2 hh) hBo hBk hl h0).mono ?_
  · obtain ⟨⟨b1, b2, ho⟩, hn⟩ := hj
    have nb : ∀ b, b = Bw ∨ b = Bx → ¬ (b = bf ∨ b = bi) := fun b hb hh => by have := hB b hb; rcases hh with hh | hh; exact this.1 hh; exact this.2 hh
    have e3 := (only_cell ho (a := ⟨Bw, 0, none⟩) (World.block_lt_of_cell? w3 _ hw) (nb _ (.inl rfl))).trans hw
    have e4 := (only_cell ho (a := ⟨Bx, 1, none⟩) (World.block_lt_of_cell? w3 _ hx) (nb _ (.inr rfl))).trans hx
    have e5 := hl2.only ho (fun a e h hh => by have := hA2 a e h; rcases hh with hh | hh; exact this.1 hh; exact this.2 hh)
    have c1 := fn_any bf bi Bw Bx pre.length c2 x1 A2 (fromL L x0) x (fineB (fromL L x0) pre) W (by omega) (by omega) hne (fun h => (hB Bx (.inr rfl)).1 h) (fun h => (hB Bx (.inr rfl)).2 h) b1 b2 e3 e4 e5
    refine c1.mono ?_
    rintro e W' ⟨rfl, g1, g2, hk, go⟩
    rw [← fineB_step] at g1
    have hB' : TellB w3 bf bi (fromL L x0) (pre ++ [x]) W' := ⟨g1, by rw [List.length_append]; exact g2, ho.trans go⟩
    by_cases hd : ((pre.length + 1 : Nat) : Int) = x1
    · right
      exact ⟨by rw [decide_eq_true hd]; rfl, ⟨hB', by rw [List.length_append]; exact hd, by rw [List.length_append]; simp⟩, hk, go⟩
    · left
      refine ⟨by rw [decide_eq_false hd]; rfl, ⟨hB', fun n h1 h2 => ?_⟩, hk, go⟩
      rw [List.length_append] at h2
      simp only [List.length_cons, List.length_nil] at h2
      rcases Nat.eq_or_lt_of_le h2 with e | e
      · rw [e]; exact hd
      · exact hn n h1 (by omega)
  · rintro e w' ⟨hv, hj⟩
    refine ⟨hv, ?_⟩
    rcases hj with ⟨⟨b1, b2, ho⟩, hn⟩ | ⟨k, hk, ⟨b1, b2, ho⟩, he, h1'⟩
    · rw [fineB_self] at b1
      refine ⟨_, b1, b2, ho, by omega, fun ⟨ha, hb⟩ => ?_, fun _ => rfl⟩
      exact absurd (by omega : ((x1.toNat : Nat) : Int) = x1) (hn x1.toNat (by omega) (by omega))
    · obtain ⟨p1, p2⟩ := from_prefix L x0 k
      rw [p1] at b1
      refine ⟨_, b1, b2, ho, by omega, fun _ => he, fun hh => ?_⟩
      by_cases hq : (fromL (L.take k) x0).length = (fromL L x0).length
      · exact hq
      · exact absurd ⟨by omega, by omega⟩ hh
end Go.Proofs.Ytajkbeihopicnaa
