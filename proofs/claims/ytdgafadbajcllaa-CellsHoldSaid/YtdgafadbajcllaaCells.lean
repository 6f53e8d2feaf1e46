/- What a memory is: two blocks, of which one holds its words; and what accesses make of it. -/
import Derived.Test.YtdgafadbajcllaaFrame
import Derived.Test.YtdgafadbajcllaaWord
namespace Go.Proofs.Ytdgafadbajcllaa
open Go.ChangeShapes Go.WideShapes Go.ChangeAt Go.RowKit

/-- A memory: how many words, which; accesses, writes, the last one, whether there was one; fault. -/
structure Mem where
  n : Nat
  f : Nat → Nat
  acc : Int
  wr : Int
  la : Int
  named : Bool
  fault : Bool

/-- Words as cells. -/
def us (f : Nat → Nat) : Nat → Value := fun i => .int .u64 (f i : Nat)
/-- A memory's own cells; its words lie where v leads. -/
def memV (v : Value) (s : Mem) : Nat → Value
  | 0 => v
  | 1 => .int .i64 s.acc
  | 2 => .int .i64 s.wr
  | 3 => .int .i64 s.la
  | 4 => .bool s.named
  | _ => .bool s.fault
def mem0 (n : Nat) (f : Nat → Nat) : Mem := ⟨n, f, 0, 0, 0, false, false⟩
structure OkM (s : Mem) : Prop where
  pos : 1 ≤ s.n
  top : s.n ≤ 4096
  word : ∀ i, s.f i < 18446744073709551616
  acc0 : 0 ≤ s.acc
  acc1 : s.acc < 4611686018427387904
  wr0 : 0 ≤ s.wr
  wr1 : s.wr ≤ s.acc
/-- Is a word in place? -/
def inB (s : Mem) (a : Int) : Bool := decide (0 ≤ a) && decide (a < s.n)
def inS (s : Mem) (a : Int) : Mem := ⟨s.n, s.f, s.acc + 1, s.wr, a, true, s.fault⟩
def outS (s : Mem) : Mem := ⟨s.n, s.f, s.acc + 1, s.wr, s.la, s.named, true⟩
def putS (s : Mem) (a : Int) (v : Nat) : Mem := ⟨s.n, fun i => if (i : Int) = a then v else s.f i, s.acc, s.wr + 1, s.la, s.named, s.fault⟩
def touch (s : Mem) (a : Int) : Mem := bif inB s a then inS s a else outS s
def loadV (s : Mem) (a : Int) : Nat := bif inB s a then s.f a.toNat else 0
def storeM (s : Mem) (a : Int) (v : Nat) : Mem := bif inB s a then putS (inS s a) a v else outS s
def casB (s : Mem) (a : Int) (old : Nat) : Bool := inB s a && decide (s.f a.toNat = old)
def casM (s : Mem) (a : Int) (old v : Nat) : Mem := bif casB s a old then putS (inS s a) a v else touch s a

/-- A whole row, where a slice leads. -/
theorem row_lead {w : World} {g : Nat} {t : TypeId} {n : Nat} {f : Nat → Value} (hr : Row w g t n f) : RowIs w (some ⟨g, 0, none⟩) n f := fun _ => ⟨g, 0, rfl, hr.lt, fun i hi => by rw [Nat.zero_add]; exact hr.cell hi⟩
/-- A memory lies at g, its words at h. -/
structure MemIs (w : World) (g h : Nat) (s : Mem) : Prop where
  row : Row w g 53 6 (memV (.slice (some ⟨h, 0, none⟩) s.n s.n) s)
  words : Row w h 24 s.n (us s.f)
  ne : g ≠ h
/-- The two blocks. -/
def Two (g h : Nat) : Nat → Prop := fun i => i = g ∨ i = h
theorem MemIs.keep {w w' : World} {g h : Nat} {s : Mem} (hm : MemIs w g h s) (hb : Below w.heap.size w w') : MemIs w' g h s := ⟨hm.row.keep hb, hm.words.keep hb, hm.ne⟩
theorem MemIs.only {w w' : World} {g h : Nat} {s : Mem} (hm : MemIs w g h s) {F : Nat → Prop} (ho : Only F w w') (hg : ¬ F g) (hh : ¬ F h) : MemIs w' g h s := ⟨hm.row.only ho hg, hm.words.only ho hh, hm.ne⟩
theorem MemIs.cells {w : World} {g h : Nat} {s : Mem} (hm : MemIs w g h s) : w.cell? ⟨g, 0, none⟩ = some (.slice (some ⟨h, 0, none⟩) s.n s.n) ∧ w.cell? ⟨g, 1, none⟩ = some (.int .i64 s.acc) ∧ w.cell? ⟨g, 2, none⟩ = some (.int .i64 s.wr) ∧
    w.cell? ⟨g, 3, none⟩ = some (.int .i64 s.la) ∧ w.cell? ⟨g, 4, none⟩ = some (.bool s.named) ∧ w.cell? ⟨g, 5, none⟩ = some (.bool s.fault) :=
  ⟨hm.row.cell (i := 0) (by omega), hm.row.cell (i := 1) (by omega), hm.row.cell (i := 2) (by omega), hm.row.cell (i := 3) (by omega), hm.row.cell (i := 4) (by omega), hm.row.cell (i := 5) (by omega)⟩
theorem MemIs.frozen {w : World} {g h : Nat} {s : Mem} (hm : MemIs w g h s) : w.frozen? ⟨g, 0, none⟩ = false ∧ w.frozen? ⟨g, 1, none⟩ = false ∧ w.frozen? ⟨g, 2, none⟩ = false ∧ w.frozen? ⟨g, 3, none⟩ = false ∧ w.frozen? ⟨g, 4, none⟩ = false ∧ w.frozen? ⟨g, 5, none⟩ = false :=
  ⟨hm.row.frozen 0, hm.row.frozen 1, hm.row.frozen 2, hm.row.frozen 3, hm.row.frozen 4, hm.row.frozen 5⟩
theorem inB_yes {s : Mem} {a : Int} (h0 : 0 ≤ a) (h1 : a < s.n) : inB s a = true := by unfold inB; rw [decide_eq_true h0, decide_eq_true h1]; rfl
theorem inB_low {s : Mem} {a : Int} (h0 : ¬ 0 ≤ a) : inB s a = false := by unfold inB; rw [decide_eq_false h0]; rfl
theorem inB_high {s : Mem} {a : Int} (h1 : ¬ a < s.n) : inB s a = false := by unfold inB; rw [decide_eq_false h1, Bool.and_false]
theorem inB_iff {s : Mem} {a : Int} : inB s a = true ↔ 0 ≤ a ∧ a < s.n := by unfold inB; simp

/-- May a memory have so many words? -/
def fitsB (n : Int) : Bool := decide (1 ≤ n) && decide (n ≤ 4096)
theorem cFits_any (n : Int) (w : World) : Calls Try.prog 21 #[.int .i64 n] w fun e w' => e = .returned (.bool (fitsB n)) ∧ w = w' := by
  by_cases h1 : 1 ≤ n
  · have d1 : fitsB n = decide (n ≤ 4096) := by unfold fitsB; rw [decide_eq_true h1]; rfl
    rw [d1]
    clear d1
    go_enter Try.func21, Try.ntmps21
    go_wp2_with fail
    go_ret
    exact ⟨rfl, rfl⟩
  · have d1 : fitsB n = false := by unfold fitsB; rw [decide_eq_false h1]; rfl
    rw [d1]
    clear d1
    go_enter Try.func21, Try.ntmps21
    go_wp2_with fail
    go_ret
    exact ⟨rfl, rfl⟩

theorem cAccess_nil (a : Int) (w : World) : Calls Try.prog 24 #[.pointer none, .int .i64 a] w fun e w' => e = .returned (.bool false) ∧ w = w' := by
  go_enter Try.func24, Try.ntmps24
  go_wp2_with fail
  go_ret
  exact ⟨rfl, rfl⟩

theorem touch_row (v : Value) (s : Mem) (a : Int) (i : Nat) (hi : i < 6) :
    (if i = 4 then Value.bool true else if i = 3 then .int .i64 a else if i = 1 then .int .i64 (s.acc + 1) else memV v s i) = memV v (inS s a) i := by
  match i, hi with
  | 0, _ => rfl
  | 1, _ => rfl
  | 2, _ => rfl
  | 3, _ => rfl
  | 4, _ => rfl
  | 5, _ => rfl
theorem out_row (v : Value) (s : Mem) (i : Nat) (hi : i < 6) :
    (if i = 5 then Value.bool true else if i = 1 then .int .i64 (s.acc + 1) else memV v s i) = memV v (outS s) i := by
  match i, hi with
  | 0, _ => rfl
  | 1, _ => rfl
  | 2, _ => rfl
  | 3, _ => rfl
  | 4, _ => rfl
  | 5, _ => rfl

theorem cAccess_in (s : Mem) (hs : OkM s) (g h : Nat) (a : Int) (h0 : 0 ≤ a) (h1 : a < s.n) (w : World) (hm : MemIs w g h s) : Calls Try.prog 24 #[.pointer (some ⟨g, 0, none⟩), .int .i64 a] w
    fun e w' => e = .returned (.bool true) ∧ MemIs w' g h (inS s a) ∧ Only (Two g h) w w' := by
  obtain ⟨u0, u1, u2, u3, u4, u5⟩ := hm.cells
  obtain ⟨v0, v1, v2, v3, v4, v5⟩ := hm.frozen
  have HM := Lib.hid hm; clear hm
  have b0 := hs.acc0
  have b1 := hs.acc1
  have b2 := hs.top
  have HS := Lib.hid hs; clear hs
  go_enter Try.func24, Try.ntmps24
  go_wp2_with fail
  go_ret
  refine ⟨rfl, ⟨?_, ?_, HM.out.ne⟩, ?_⟩
  · exact (((HM.out.row.set_ 1 _).set_ 3 _).set_ 4 _).congr fun i hi => touch_row _ s a i hi
  · exact ((HM.out.words.far HM.out.ne.symm _).far HM.out.ne.symm _).far HM.out.ne.symm _
  · exact (((Only.refl _ w).setCell (.inl rfl) _).setCell (.inl rfl) _).setCell (.inl rfl) _

theorem cAccess_out (s : Mem) (hs : OkM s) (g h : Nat) (a : Int) (ho : inB s a = false) (w : World) (hm : MemIs w g h s) : Calls Try.prog 24 #[.pointer (some ⟨g, 0, none⟩), .int .i64 a] w
    fun e w' => e = .returned (.bool false) ∧ MemIs w' g h (outS s) ∧ Only (Two g h) w w' := by
  obtain ⟨u0, u1, u2, u3, u4, u5⟩ := hm.cells
  obtain ⟨v0, v1, v2, v3, v4, v5⟩ := hm.frozen
  have HM := Lib.hid hm; clear hm
  have b0 := hs.acc0
  have b1 := hs.acc1
  have b2 := hs.top
  have HS := Lib.hid hs; clear hs
  have hF : ∀ W, ((w.setCell ⟨g, 1, none⟩ (.int .i64 (s.acc + 1))).setCell ⟨g, 5, none⟩ (.bool true)) = W → MemIs W g h (outS s) ∧ Only (Two g h) w W := by
    rintro W rfl
    refine ⟨⟨?_, ?_, HM.out.ne⟩, ?_⟩
    · exact ((HM.out.row.set_ 1 _).set_ 5 _).congr fun i hi => out_row _ s i hi
    · exact (HM.out.words.far HM.out.ne.symm _).far HM.out.ne.symm _
    · exact ((Only.refl _ w).setCell (.inl rfl) _).setCell (.inl rfl) _
  by_cases h0 : 0 ≤ a
  · have h1 : ¬ a < s.n := fun h1 => by rw [inB_yes h0 h1] at ho; cases ho
    clear ho
    go_enter Try.func24, Try.ntmps24
    go_wp2_with fail
    go_ret
    exact ⟨rfl, hF _ rfl⟩
  · clear ho
    go_enter Try.func24, Try.ntmps24
    go_wp2_with fail
    go_ret
    exact ⟨rfl, hF _ rfl⟩
end Go.Proofs.Ytdgafadbajcllaa
