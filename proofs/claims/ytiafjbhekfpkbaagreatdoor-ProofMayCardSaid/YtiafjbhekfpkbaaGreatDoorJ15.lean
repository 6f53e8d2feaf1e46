/- rows.reaching and what it tells; rows.At. -/
import Derived.RangeFuncNested
import Derived.RangeFuncBound
import Derived.RangeFuncCalls
import Derived.RangeFuncLeaves
import Derived.Shelf.Abstract
import Derived.Shelf.RegionOpen
import Derived.WalkKit
import Derived.OwnWalkIn
import Derived.TacticsInMore
import Derived.LoopNIn
import Derived.LoopIn
import Derived.Test.YtiafjbhekfpkbaaGreatDoorJ14
namespace Go.Proofs.YtiafjbhekfpkbaaGreatDoor
set_option linter.unusedSimpArgs false
set_option linter.unusedVariables false
open Go.ChangeShapes Go.WideShapes Go.ChangeAt Go.RowKit Go.Shelf
attribute [local go_sem] Oper.semAt_some

theorem Lies.only {M : Nat → Prop} {w w' : World} {A : Option Addr} {L : List Rw} (h : Lies w A L) (ho : Only M w w') (hM : ∀ a, A = some a → 0 < L.length → ¬ M a.block) : Lies w' A L := by
  by_cases h0 : 0 < L.length
  · obtain ⟨b, off, rfl, hlt, hc⟩ := h.some_ h0
    exact .inr ⟨b, off, rfl, Nat.lt_of_lt_of_le hlt ho.size, fun j v hj => by rw [only_cell ho (a := ⟨b, off + j, none⟩) hlt (show ¬ M b from hM ⟨b, off, none⟩ rfl h0)]; exact hc j v hj⟩
  · exact .inl (List.length_eq_zero_iff.1 (by omega))
theorem Lies.lt_ {w : World} {A : Option Addr} {L : List Rw} (h : Lies w A L) (a : Addr) (e : A = some a) (h0 : 0 < L.length) : a.block < w.heap.size := by
  obtain ⟨b, off, rfl, hb, _⟩ := h.some_ h0
  cases e
  exact hb
/-- A row as the values that are told. -/
def told (x : Nat × Rw) : Array Value := #[.int .i64 (x.1 : Int), .agg #[.int .i64 x.2.k, .int .u64 (x.2.a : Nat), .int .u64 (x.2.b : Nat)]]

theorem reaching_in (F : Fence) (n : Nat) (h : F.fn 131) (hro : F.round = none) (A : Option Addr) (m c : Nat) (key : Int) (w : World) :
    CallsIn F n Tryz.prog 131 #[.slice A m c, .int .i64 key] w fun e w' => e = .returned (.func (.func 142) #[] #[.pointer (some ⟨w.heap.size, 0, none⟩), .pointer (some ⟨w.heap.size + 1, 0, none⟩)]) ∧
      w' = (w.alloc (.cells #[.slice A m c] 49)).alloc (.cells #[.int .i64 key] 2) := by
  refine callsIn_of_wp Tryz.func131 rfl h ?_ hro
  simp only [Tryz.ntmps131, List.size_toArray, List.length_cons, List.length_nil, Nat.reduceAdd, Nat.reduceSub, Array.replicate_succ, Array.replicate_zero, List.push_toArray, List.append_toArray, List.nil_append, List.cons_append]
  gi_wp2
  go_ret
  exact ⟨rfl, rfl⟩

set_option maxRecDepth 100000 in
set_option maxHeartbeats 2000000 in
theorem reaching1_in (F : Fence) (n : Nat) (h : F.fn 142) (hro : F.round = none) (hn : 1 ≤ n) (M : Nat → Prop) (l Bl Bk c : Nat) (A : Option Addr) (L : List Rw) (hL : L.length ≤ 1000000) (key : Int) (hA : ∀ a, A = some a → 0 < L.length → ¬ M a.block) (hM : ¬ M Bk) (J Jx : List (Nat × Rw) → World → Prop)
    (hY : ∀ pre x W, J pre W → pre.length < L.length → YieldAt F (n - 1) Tryz.prog l (told x) W fun e W' =>
      (e = .returned (.bool true) ∧ J (pre ++ [x]) W' ∧ Only M W W') ∨ (e = .returned (.bool false) ∧ Jx (pre ++ [x]) W'))
    (W : World) (hJ : AbidesFrom W.heap.size J) (hBl : W.cell? ⟨Bl, 0, none⟩ = some (.slice A L.length c)) (hBk : W.cell? ⟨Bk, 0, none⟩ = some (.int .i64 key)) (hl : Lies W A L) (h0 : J [] W) :
    CallsIn F n Tryz.prog 142 #[.func (.yield l) #[] #[], .pointer (some ⟨Bl, 0, none⟩), .pointer (some ⟨Bk, 0, none⟩)] W fun e W' => (∃ v, e = .returned v) ∧
      ((∃ ys, ys = hits L key L.length ∧ J ys W') ∨ (∃ pre, (∃ k, k ≤ L.length ∧ pre = hits L key k) ∧ Jx pre W')) := by
  have HY := Lib.hid hY; have HL := Lib.hid hl; have HJ := Lib.hid hJ; have HK := Lib.hid hBk
  clear hY hl hJ hBk
  generalize hm : L.length = m at *
  have HM := Lib.hid hm; clear hm
  refine callsIn_of_wp Tryz.func142 rfl h ?_ hro
  simp only [Tryz.ntmps142, List.size_toArray, List.length_cons, List.length_nil, Nat.reduceAdd, Nat.reduceSub, Array.replicate_succ, Array.replicate_zero, List.push_toArray, List.append_toArray, List.nil_append, List.cons_append]
  gi_wp2
  gi_loopw [8] (fun i wr => ∃ k : Nat, k ≤ m ∧ i = .int .i64 k ∧ J (hits L key k) wr ∧ Only M W wr) (fun i _ => m - (intOf i).toNat)
  case atStart => exact ⟨0, Nat.zero_le _, rfl, h0, Only.refl _ _⟩
  case round =>
    obtain ⟨k, hk, rfl, hJs, hO⟩ := hrel
    by_cases hlt : k < m
    · obtain ⟨b, off, rfl, hb, hx⟩ := (HL.out.only hO (by rw [HM.out]; exact hA)).at_ (by rw [HM.out]; omega)
      obtain ⟨p0, p1, p2⟩ := hx k (by rw [HM.out]; exact hlt)
      have q0 := (only_cell hO (a := ⟨Bk, 0, none⟩) (World.block_lt_of_cell? W _ HK.out) hM).trans HK.out
      have hO1 := hO.then ((Below.refl wr.heap.size wr).alloc (Nat.le_refl _) (.cells #[.int .i64 (nth L k).k, .int .u64 ((nth L k).a : Nat), .int .u64 ((nth L k).b : Nat)] 58))
      have hJ1 : J (hits L key k) (wr.alloc (.cells #[.int .i64 (nth L k).k, .int .u64 ((nth L k).a : Nat), .int .u64 ((nth L k).b : Nat)] 58)) := HJ.out _ _ _ none hJs (World.grownBy_alloc wr _ none) (fun r e => by cases e)
      have q1 : (wr.alloc (.cells #[.int .i64 (nth L k).k, .int .u64 ((nth L k).a : Nat), .int .u64 ((nth L k).b : Nat)] 58)).cell? ⟨Bk, 0, none⟩ = some (.int .i64 key) := ((Below.refl wr.heap.size wr).alloc (Nat.le_refl _) _).cell (p := ⟨Bk, 0, none⟩) (World.block_lt_of_cell? wr _ q0) |>.trans q0
      by_cases hs : key ≤ (nth L k).k
      · obtain ⟨fn, tmps, assign, body, hy, hR⟩ := HY.out _ (k, nth L k) _ hJ1 (by have := hits_length L key k; omega)
        have hd : decide ((nth L k).k ≥ key) = true := decide_eq_true hs
        have HS := Lib.hid (hits_yes hs); clear hs
        dsimp only [told] at hy
        have HO := Lib.hid hO1
        clear hO hO1 hJs hJ1 hx q0
        generalize hx1 : nth L k = y at *
        rcases y with ⟨yk, ya, yb⟩
        dsimp only at *
        gi_wp2
        refine hR.mono ?_
        rintro e W3 (⟨rfl, hJ3, hk3⟩ | ⟨rfl, hJx3⟩)
        · gi_wp2
          go_roundw
          case rel => exact ⟨k + 1, by omega, by go_num, by rw [HS.out]; exact hJ3, HO.out.trans hk3⟩
          case measure => simp [intOf]; omega
        · gi_wp2
          refine bodyPost_ret (results_none rfl _ _ _) rfl ?_
          exact ⟨⟨_, rfl⟩, .inr ⟨_, ⟨k + 1, by omega, HS.out.symm⟩, hJx3⟩⟩
      · have hd : decide ((nth L k).k ≥ key) = false := decide_eq_false hs
        have HS := Lib.hid (hits_no hs); clear hs
        have HO := Lib.hid hO1
        have HJ1 := Lib.hid hJ1
        clear hO hO1 hJs hJ1 hx q0
        generalize hx1 : nth L k = y at *
        rcases y with ⟨yk, ya, yb⟩
        dsimp only at *
        gi_wp2
        refine ⟨fun _ h => (by cases h), ?_⟩
        gi_wp2
        go_roundw
        case rel => exact ⟨k + 1, by omega, by go_num, by rw [HS.out]; exact HJ1.out, HO.out⟩
        case measure => simp [intOf]; omega
    · obtain rfl : k = m := by omega
      have HO := Lib.hid (And.intro hJs hO); clear hJs hO
      gi_wp2
      go_end0
      exact ⟨⟨_, rfl⟩, .inl ⟨_, rfl, HO.out.1⟩⟩

/-- What reaching hands back tells the rows from a key on, with their places, till nobody wants more. -/
theorem reaching_stops (F : Fence) (n : Nat) (h : F.fn 142) (hro : F.round = none) (hn : 1 ≤ n) (M : Nat → Prop) (Bl Bk c : Nat) (A : Option Addr) (L : List Rw) (hL : L.length ≤ 1000000) (key : Int) (hA : ∀ a, A = some a → 0 < L.length → ¬ M a.block) (hM : ¬ M Bk)
    (w : World) (hBl : w.cell? ⟨Bl, 0, none⟩ = some (.slice A L.length c)) (hBk : w.cell? ⟨Bk, 0, none⟩ = some (.int .i64 key)) (hl : Lies w A L) :
    SeqStopsK F n Tryz.prog 142 #[.pointer (some ⟨Bl, 0, none⟩), .pointer (some ⟨Bk, 0, none⟩)] told (Only M) (fun ys => ys = hits L key L.length) (fun pre => ∃ k, k ≤ L.length ∧ pre = hits L key k) L.length w := fun l J Jx W hW hJ _ hY h0 =>
  reaching1_in F n h hro hn M l Bl Bk c A L hL key hA hM J Jx hY W hJ ((hW.cell (p := ⟨Bl, 0, none⟩) (World.block_lt_of_cell? w _ hBl)).trans hBl) ((hW.cell (p := ⟨Bk, 0, none⟩) (World.block_lt_of_cell? w _ hBk)).trans hBk) (hl.keep hW) h0

theorem onlyK_t {M : Nat → Prop} {A B C : World} (h : Only M A B) (k : Only M B C) : Only M A C := h.trans k
theorem onlyK_b {M : Nat → Prop} {w : World} (hM : ∀ i, w.heap.size ≤ i → M i) (W : World) (l : Nat) (o o' : Obj) (hl : w.heap.size ≤ l) (h : W.heap[l]? = some o) (_ : o.isCells = false) (_ : o.isWalk = false) : Only M W (W.putObj l o') :=
  ⟨(Below.refl 0 W).grown (grownBy_putObj' W l o') (Nat.zero_le _) (fun _ _ => Nat.zero_le _), fun i _ hn => (grownBy_putObj' W l o').block i (by assumption) (fun e => by cases e; exact hn (hM _ hl))⟩
end Go.Proofs.YtiafjbhekfpkbaaGreatDoor
