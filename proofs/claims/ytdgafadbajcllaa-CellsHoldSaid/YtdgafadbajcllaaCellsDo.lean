/- Store, Load, Cas: what they answer and what they make of a memory. -/
import Derived.Test.YtdgafadbajcllaaCells
namespace Go.Proofs.Ytdgafadbajcllaa
open Go.ChangeShapes Go.WideShapes Go.ChangeAt Go.RowKit

theorem put_row (v : Value) (s : Mem) (a : Int) (x : Nat) (i : Nat) (hi : i < 6) : (if i = 2 then Value.int .i64 (s.wr + 1) else memV v s i) = memV v (putS s a x) i := by
  match i, hi with
  | 0, _ => rfl
  | 1, _ => rfl
  | 2, _ => rfl
  | 3, _ => rfl
  | 4, _ => rfl
  | 5, _ => rfl
theorem put_words (f : Nat → Nat) (k x i : Nat) : (if i = k then Value.int .u64 (x : Nat) else us f i) = us (fun i => if (i : Int) = (k : Int) then x else f i) i := by
  unfold us
  by_cases e : i = k
  · rw [if_pos e, show (fun i : Nat => if (i : Int) = (k : Int) then x else f i) i = x from if_pos (by omega)]
  · rw [if_neg e, show (fun i : Nat => if (i : Int) = (k : Int) then x else f i) i = f i from if_neg (by omega)]

theorem cWrite_in (s : Mem) (hs : OkM s) (hw : s.wr < 4611686018427387904) (g h : Nat) (k : Nat) (h1 : k < s.n) (x : Nat) (w : World) (hm : MemIs w g h s) : Calls Try.prog 25 #[.pointer (some ⟨g, 0, none⟩), .int .i64 k, .int .u64 x] w
    fun e w' => e = .returned (.tuple #[]) ∧ MemIs w' g h (putS s k x) ∧ Only (Two g h) w w' := by
  obtain ⟨u0, u1, u2, u3, u4, u5⟩ := hm.cells
  obtain ⟨v0, v1, v2, v3, v4, v5⟩ := hm.frozen
  have uk := hm.words.cell h1
  unfold us at uk
  have vk := hm.words.frozen k
  have hne := hm.ne
  have hne2 := hm.ne.symm
  have HM := Lib.hid hm; clear hm
  have b0 := hs.wr0
  have b2 := hs.top
  have HS := Lib.hid hs; clear hs
  go_enter Try.func25, Try.ntmps25
  go_wp2_with fail
  go_end0
  refine ⟨rfl, ⟨?_, ?_, HM.out.ne⟩, ?_⟩
  · exact ((HM.out.row.far HM.out.ne _).set_ 2 _).congr fun i hi => put_row _ s k x i hi
  · exact ((HM.out.words.set_ k _).far HM.out.ne.symm _).congr fun i _ => put_words s.f k x i
  · exact ((Only.refl _ w).setCell (.inr rfl) _).setCell (.inl rfl) _
theorem ok_in {s : Mem} (hs : OkM s) (a : Int) (h : s.acc < 4611686018427387903) : OkM (inS s a) := ⟨hs.pos, hs.top, hs.word, by have := hs.acc0; show 0 ≤ s.acc + 1; omega, by show s.acc + 1 < _; omega, hs.wr0, by have := hs.wr1; show s.wr ≤ s.acc + 1; omega⟩

theorem cStore_nil (a : Int) (x : Nat) (w : World) : Calls Try.prog 18 #[.pointer none, .int .i64 a, .int .u64 x] w fun e w' => e = .returned (.tuple #[]) ∧ w = w' := by
  have cA := fun W => cAccess_nil a W
  have CA := Lib.hid cA; clear cA
  go_enter Try.func18, Try.ntmps18
  go_wp2_with (go_at_call 24; refine (CA.out _).mono ?_; rintro e w' ⟨rfl, rfl⟩)
  go_end0
  exact ⟨rfl, rfl⟩
theorem cLoad_nil (a : Int) (w : World) : Calls Try.prog 19 #[.pointer none, .int .i64 a] w fun e w' => e = .returned (.int .u64 0) ∧ w = w' := by
  have cA := fun W => cAccess_nil a W
  have CA := Lib.hid cA; clear cA
  go_enter Try.func19, Try.ntmps19
  go_wp2_with (go_at_call 24; refine (CA.out _).mono ?_; rintro e w' ⟨rfl, rfl⟩)
  go_ret
  exact ⟨rfl, rfl⟩
theorem cCas_nil (a : Int) (x y : Nat) (w : World) : Calls Try.prog 20 #[.pointer none, .int .i64 a, .int .u64 x, .int .u64 y] w fun e w' => e = .returned (.bool false) ∧ w = w' := by
  have cA := fun W => cAccess_nil a W
  have CA := Lib.hid cA; clear cA
  go_enter Try.func20, Try.ntmps20
  go_wp2_with (go_at_call 24; refine (CA.out _).mono ?_; rintro e w' ⟨rfl, rfl⟩)
  go_ret
  exact ⟨rfl, rfl⟩

section
variable (s : Mem) (hs : OkM s) (hk : s.acc < 4611686018427387903) (g h : Nat) (a : Int) (w : World) (hm : MemIs w g h s)
include hs hk hm
theorem cStore_any (x : Nat) : Calls Try.prog 18 #[.pointer (some ⟨g, 0, none⟩), .int .i64 a, .int .u64 x] w
    fun e w' => e = .returned (.tuple #[]) ∧ MemIs w' g h (storeM s a x) ∧ Only (Two g h) w w' := by
  cases hi : inB s a
  · have cA := cAccess_out s hs g h a hi w hm
    have CA := Lib.hid cA
    have e1 : storeM s a x = outS s := by unfold storeM; rw [hi]; rfl
    rw [e1]
    clear cA e1 hi hm hs
    go_enter Try.func18, Try.ntmps18
    go_wp2_with (go_at_call 24; refine CA.out.mono ?_; rintro e w1 ⟨rfl, hm1, ho1⟩)
    go_end0
    exact ⟨rfl, hm1, ho1⟩
  · have e1 : storeM s a x = putS (inS s a) a x := by unfold storeM; rw [hi]; rfl
    rw [e1]
    clear e1
    have hi2 := inB_iff.1 hi
    clear hi
    obtain ⟨k, rfl⟩ : ∃ k : Nat, a = k := ⟨a.toNat, by omega⟩
    have cA := cAccess_in s hs g h k hi2.1 hi2.2 w hm
    have CA := Lib.hid cA
    have cW := fun W hmW => cWrite_in (inS s k) (ok_in hs k hk) (by have := hs.wr1; show s.wr < _; omega) g h k (by have := hi2.2; show k < s.n; omega) x W hmW
    have CW := Lib.hid cW
    clear cA cW hi2 hm hs
    go_enter Try.func18, Try.ntmps18
    go_wp2_with (first | (go_at_call 24; refine CA.out.mono ?_; rintro e w1 ⟨rfl, hm1, ho1⟩) | (go_at_call 25; refine (CW.out _ hm1).mono ?_; rintro e w2 ⟨rfl, hm2, ho2⟩))
    go_end0
    exact ⟨rfl, hm2, ho1.trans ho2⟩

omit hk in
theorem cLoad_any : Calls Try.prog 19 #[.pointer (some ⟨g, 0, none⟩), .int .i64 a] w
    fun e w' => e = .returned (.int .u64 (loadV s a : Nat)) ∧ MemIs w' g h (touch s a) ∧ Only (Two g h) w w' := by
  cases hi : inB s a
  · have cA := cAccess_out s hs g h a hi w hm
    have CA := Lib.hid cA
    have e1 : touch s a = outS s := by unfold touch; rw [hi]; rfl
    have e2 : loadV s a = 0 := by unfold loadV; rw [hi]; rfl
    rw [e1, e2]
    clear cA e1 e2 hi hm hs
    go_enter Try.func19, Try.ntmps19
    go_wp2_with (go_at_call 24; refine CA.out.mono ?_; rintro e w1 ⟨rfl, hm1, ho1⟩)
    go_ret
    exact ⟨rfl, hm1, ho1⟩
  · have hi2 := inB_iff.1 hi
    obtain ⟨k, rfl⟩ : ∃ k : Nat, a = k := ⟨a.toNat, by omega⟩
    have e1 : touch s k = inS s k := by unfold touch; rw [hi]; rfl
    have e2 : loadV s k = s.f k := by unfold loadV; rw [hi]; rfl
    rw [e1, e2]
    clear e1 e2 hi
    have cA := cAccess_in s hs g h k hi2.1 hi2.2 w hm
    have CA := Lib.hid cA
    have hkn : k < s.n := by omega
    have b2 := hs.top
    clear cA hi2 hm hs
    go_enter Try.func19, Try.ntmps19
    go_wp2_with (go_at_call 24; refine CA.out.mono ?_; rintro e w1 ⟨rfl, hm1, ho1⟩; have u0 : w1.cell? ⟨g, 0, none⟩ = some (.slice (some ⟨h, 0, none⟩) s.n s.n) := hm1.cells.1; have uk : w1.cell? ⟨h, k, none⟩ = some (.int .u64 (s.f k : Nat)) := hm1.words.cell hkn)
    go_ret
    exact ⟨rfl, hm1, ho1⟩

theorem cCas_any (x y : Nat) : Calls Try.prog 20 #[.pointer (some ⟨g, 0, none⟩), .int .i64 a, .int .u64 x, .int .u64 y] w
    fun e w' => e = .returned (.bool (casB s a x)) ∧ MemIs w' g h (casM s a x y) ∧ Only (Two g h) w w' := by
  cases hi : inB s a
  · have cA := cAccess_out s hs g h a hi w hm
    have CA := Lib.hid cA
    have e1 : casB s a x = false := by unfold casB; rw [hi]; rfl
    have e2 : casM s a x y = outS s := by unfold casM touch; rw [e1, hi]; rfl
    rw [e2, e1]
    clear cA e1 e2 hi hm hs
    go_enter Try.func20, Try.ntmps20
    go_wp2_with (go_at_call 24; refine CA.out.mono ?_; rintro e w1 ⟨rfl, hm1, ho1⟩)
    go_ret
    exact ⟨rfl, hm1, ho1⟩
  · have hi2 := inB_iff.1 hi
    obtain ⟨k, rfl⟩ : ∃ k : Nat, a = k := ⟨a.toNat, by omega⟩
    have cA := cAccess_in s hs g h k hi2.1 hi2.2 w hm
    have CA := Lib.hid cA
    have hkn : k < s.n := by omega
    have b2 := hs.top
    have cW := fun W hmW => cWrite_in (inS s k) (ok_in hs k hk) (by have := hs.wr1; show s.wr < _; omega) g h k (by show k < s.n; omega) y W hmW
    have CW := Lib.hid cW
    have eB : casB s k x = decide (s.f k = x) := by unfold casB; rw [hi]; rfl
    clear cA cW hi2 hm hs
    by_cases he : s.f k = x
    · rw [decide_eq_true he] at eB
      have e2 : casM s k x y = putS (inS s k) k y := by unfold casM; rw [eB]; rfl
      rw [e2, eB]
      clear e2 eB hi
      go_enter Try.func20, Try.ntmps20
      go_wp2_with (first | (go_at_call 24; refine CA.out.mono ?_; rintro e w1 ⟨rfl, hm1, ho1⟩; have u0 : w1.cell? ⟨g, 0, none⟩ = some (.slice (some ⟨h, 0, none⟩) s.n s.n) := hm1.cells.1; have uk : w1.cell? ⟨h, k, none⟩ = some (.int .u64 (s.f k : Nat)) := hm1.words.cell hkn) | (go_at_call 25; refine (CW.out _ hm1).mono ?_; rintro e w2 ⟨rfl, hm2, ho2⟩))
      go_ret
      exact ⟨rfl, hm2, ho1.trans ho2⟩
    · rw [decide_eq_false he] at eB
      have e2 : casM s k x y = inS s k := by unfold casM touch; rw [eB, hi]; rfl
      rw [e2, eB]
      clear e2 eB hi
      go_enter Try.func20, Try.ntmps20
      go_wp2_with (go_at_call 24; refine CA.out.mono ?_; rintro e w1 ⟨rfl, hm1, ho1⟩; have u0 : w1.cell? ⟨g, 0, none⟩ = some (.slice (some ⟨h, 0, none⟩) s.n s.n) := hm1.cells.1; have uk : w1.cell? ⟨h, k, none⟩ = some (.int .u64 (s.f k : Nat)) := hm1.words.cell hkn)
      go_ret
      exact ⟨rfl, hm1, ho1⟩
end
end Go.Proofs.Ytdgafadbajcllaa
