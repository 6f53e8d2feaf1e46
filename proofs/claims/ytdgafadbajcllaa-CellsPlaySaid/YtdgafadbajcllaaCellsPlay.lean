/- The walk of CellsPlay. -/
import Derived.Test.YtdgafadbajcllaaCellsNewLaw
import Derived.Test.YtdgafadbajcllaaOpenOps
namespace Go.Proofs.Ytdgafadbajcllaa
open Go.ChangeShapes Go.WideShapes Go.ChangeAt Go.RowKit

/-- A memory's cells, written out. -/
def memL (v : Value) (s : Mem) : Value := .agg #[v, .int .i64 s.acc, .int .i64 s.wr, .int .i64 s.la, .bool s.named, .bool s.fault]
/-- Between two rounds: the memory at g, h; the document's one at X, its words where A leads; the access o at a1. -/
structure PlayR (w : World) (a1 g h X : Nat) (o : Opn) (s : Mem) (A : Option Addr) (c : Nat) (wr : World) : Prop where
  below : Below a1 w wr
  mem : MemIs wr g h s
  ok : OkM s
  x : Row wr X 31 6 (memV (.slice A s.n c) s)
  a : RowIs wr A s.n (us s.f)
  apart : ∀ p, A = some p → p.block ≠ g ∧ p.block ≠ h ∧ p.block ≠ X
  op : Row wr a1 26 4 (opR o)
  lt : a1 < g ∧ a1 < h ∧ a1 < X
  ne : X ≠ g ∧ X ≠ h

/-- Behind the document's access: what has been made, and where. -/
structure DoneR (w1 : World) (A : Option Addr) (s : Mem) (Y : Nat) (A2 : Option Addr) (c2 : Nat) (wx : World) : Prop where
  below : Below w1.heap.size w1 wx
  y : Row wx Y 31 6 (memV (.slice A2 s.n c2) s)
  a : RowIs wx A2 s.n (us s.f)
  apart : ∀ p, A2 = some p → A = some p ∨ w1.heap.size ≤ p.block
  far : w1.heap.size ≤ Y
theorem six_only0 (v : Value) (s : Mem) (W : World) (g : Nat) :
    Only (fun i => i = g) W ((((((W.setCell ⟨g, 0, none⟩ v).setCell ⟨g, 1, none⟩ (.int .i64 s.acc)).setCell ⟨g, 2, none⟩ (.int .i64 s.wr)).setCell ⟨g, 3, none⟩ (.int .i64 s.la)).setCell ⟨g, 4, none⟩ (.bool s.named)).setCell ⟨g, 5, none⟩ (.bool s.fault)) := by
  refine Only.setCell (Only.setCell (Only.setCell (Only.setCell (Only.setCell (Only.setCell (Only.refl _ W) ?_ _) ?_ _) ?_ _) ?_ _) ?_ _) ?_ _
  all_goals rfl
theorem doneR_a {w1 w2 : World} {A : Option Addr} {s : Mem} {A2 : Option Addr} {c2 : Nat} (hA : RowIs w2 A2 s.n (us s.f)) (hb : Below w1.drew.heap.size w1.drew w2) (hap : ∀ a, A2 = some a → A = some a ∨ w1.drew.heap.size ≤ a.block) :
    DoneR w1 A s w2.heap.size A2 c2 (w2.alloc (.cells #[.slice A2 s.n c2, .int .i64 s.acc, .int .i64 s.wr, .int .i64 s.la, .bool s.named, .bool s.fault] 31)) := by
  have hb' : Below w1.heap.size w1 w2 := ((Below.refl w1.heap.size w1).drew).trans hb
  exact ⟨hb'.alloc hb'.size _, Row.new _ _ _ _ 6 rfl, hA.below ((Below.refl _ _).alloc (Nat.le_refl _) _), hap, hb'.size⟩
theorem doneR_b {w1 w2 : World} {o : Obj} {z : Nat → Value} {A : Option Addr} {s : Mem} {A2 : Option Addr} {c2 : Nat} (hA : RowIs w2 A2 s.n (us s.f)) (hb : Below (w1.alloc o).drew.heap.size (w1.alloc o).drew w2) (hap : ∀ a, A2 = some a → A = some a ∨ (w1.alloc o).drew.heap.size ≤ a.block)
    (hlt : ∀ p, A = some p → p.block < w1.heap.size) (hY : Row w2 w1.heap.size 31 6 z) :
    DoneR w1 A s w1.heap.size A2 c2 ((((((w2.setCell ⟨w1.heap.size, 0, none⟩ (.slice A2 s.n c2)).setCell ⟨w1.heap.size, 1, none⟩ (.int .i64 s.acc)).setCell ⟨w1.heap.size, 2, none⟩ (.int .i64 s.wr)).setCell ⟨w1.heap.size, 3, none⟩ (.int .i64 s.la)).setCell ⟨w1.heap.size, 4, none⟩ (.bool s.named)).setCell ⟨w1.heap.size, 5, none⟩ (.bool s.fault)) := by
  have hb' : Below w1.heap.size w1 w2 := (((Below.refl w1.heap.size w1).alloc (Nat.le_refl _) o).drew).trans (hb.mono (by simp))
  have hap' : ∀ a, A2 = some a → a.block < w1.heap.size ∨ w1.heap.size < a.block := fun a ha => by
    rcases hap a ha with h | h
    · exact .inl (hlt a h)
    · refine .inr ?_
      have h' : w1.heap.size + 1 ≤ a.block := by simpa using h
      omega
  refine ⟨(((((hb'.setCell (Nat.le_refl _) _).setCell (Nat.le_refl _) _).setCell (Nat.le_refl _) _).setCell (Nat.le_refl _) _).setCell (Nat.le_refl _) _).setCell (Nat.le_refl _) _, six_row _ s hY, ?_, fun a ha => ?_, Nat.le_refl _⟩
  · have ho := six_only0 (.slice A2 s.n c2) s w2 w1.heap.size
    have hr := hA.only ho (fun a ha => by
      have h := hap' a ha
      intro e
      have e' : a.block = w1.heap.size := e
      omega)
    exact hr
  · rcases hap a ha with h | h
    · exact .inl h
    · refine .inr ?_
      have h' : w1.heap.size + 1 ≤ a.block := by simpa using h
      omega
theorem PlayR.keep {w : World} {a1 g h X : Nat} {o : Opn} {s : Mem} {A : Option Addr} {c : Nat} {wr w' : World} (r : PlayR w a1 g h X o s A c wr) (hb : Below wr.heap.size wr w') : PlayR w a1 g h X o s A c w' :=
  ⟨r.below.trans (hb.mono (Nat.le_of_lt r.op.lt)), r.mem.keep hb, r.ok, r.x.keep hb, r.a.below hb, r.apart, r.op.keep hb, r.lt, r.ne⟩
theorem PlayR.far {w : World} {a1 g h X : Nat} {o : Opn} {s : Mem} {A : Option Addr} {c : Nat} {wr w1 w' : World} (r : PlayR w a1 g h X o s A c wr) {F : Nat → Prop} (hb : Below wr.heap.size wr w1) (ho : Only F w1 w') (hF : ∀ i, F i → wr.heap.size ≤ i) : PlayR w a1 g h X o s A c w' :=
  r.keep (Below.only hb ho hb.size hF)

section
variable (A : Option Addr) (n c : Nat) (f : Nat → Nat) (hn : n ≤ 9223372036854775807) (hf : ∀ i, f i < 18446744073709551616) (B : Option Addr) (m cB : Nat) (O : Nat → Opn) (o : Opn) (w : World)
include hn
theorem cellsPlay_none (ho : n < 1 ∨ 4096 < n) : Calls Try.prog 3 #[.slice A n c, .slice B m cB, .agg (rowOf 4 (opR o))] w fun e w' => e = .returned (.bool true) ∧ Below w.heap.size w w' := by
  have C9 := Lib.hid fun W => cLives W
  have C1 := Lib.hid fun W => cOf_no A n c hn ho W
  go_enter Try.func3, Try.ntmps3
  go_upto_region 1 with fail
  generalize hW : World.alloc _ _ = W
  have hB : Below w.heap.size w W := by rw [← hW]; exact (Below.refl _ _).alloc (Nat.le_refl _) _
  clear hW
  generalize hz : w.heap.size = a1 at *
  have HZ := Lib.hid hz; clear hz
  have HB := Lib.hid hB; clear hB
  rcases ho with ho | ho
  · go_wp2_with (first | (go_at_call 7; refine (C9.out _).mono ?_; rintro e w5 ⟨rfl, hb5⟩) | (go_at_call 6; refine (C1.out _).mono ?_; rintro e w' ⟨rfl, rfl⟩))
    go_ret
    exact ⟨rfl, by rw [HZ.out]; exact below_on HB.out (Nat.le_of_eq HZ.out.symm) hb5⟩
  · by_cases h0 : n < 1
    · omega
    go_wp2_with (first | (go_at_call 7; refine (C9.out _).mono ?_; rintro e w5 ⟨rfl, hb5⟩) | (go_at_call 6; refine (C1.out _).mono ?_; rintro e w' ⟨rfl, rfl⟩))
    go_ret
    exact ⟨rfl, by rw [HZ.out]; exact below_on HB.out (Nat.le_of_eq HZ.out.symm) hb5⟩

omit hn in
set_option maxRecDepth 100000 in
theorem cellsPlay_long (h1 : 1 ≤ n) (h2 : n ≤ 4096) (hm : m ≤ 9223372036854775807) (hl : 60 < m) (hr : RowIs w A n (us f)) : Calls Try.prog 3 #[.slice A n c, .slice B m cB, .agg (rowOf 4 (opR o))] w fun e w' => e = .returned (.bool true) ∧ Below w.heap.size w w' := by
  have C9 := Lib.hid fun W => cLives W
  have C1 := Lib.hid fun W hr => cOf_yes A n c f h1 h2 W hr
  go_enter Try.func3, Try.ntmps3
  go_upto_region 1 with fail
  generalize hW : World.alloc _ _ = W
  have hB : Below w.heap.size w W := by rw [← hW]; exact (Below.refl _ _).alloc (Nat.le_refl _) _
  have hrW := hr.below hB
  clear hW
  generalize hz : w.heap.size = a1 at *
  have HZ := Lib.hid hz; clear hz
  have HB := Lib.hid (And.intro hB hrW); clear hB hrW hr
  go_wp2_with (first | (go_at_call 7; refine (C9.out _).mono ?_; rintro e w5 ⟨rfl, hb5⟩) | (go_at_call 6; refine (C1.out _ HB.out.2).mono ?_; rintro e w1 ⟨g, h, rfl, -, hb1, -, -⟩))
  go_ret
  exact ⟨rfl, by rw [HZ.out]; exact below_on (below_on HB.out.1 (Nat.le_of_eq HZ.out.symm) hb1) (Nat.le_of_eq HZ.out.symm) hb5⟩

end
end Go.Proofs.Ytdgafadbajcllaa
