/- What burnbagref06.Same and .Do answer: the document's memory. -/
import Derived.Test.YtdgafadbajcllaaCellsDo
import Derived.Deep.DeepCutAuto
import Derived.Deep.RegionHeld3
import Derived.Deep.WholeRow
import Derived.Deep.AppendLies
namespace Go.Proofs.Ytdgafadbajcllaa
open Go.ChangeShapes Go.WideShapes Go.ChangeAt Go.RowKit

theorem results_row_tmp2 {P : Program} {fn : Func} {p u v : Tmp} {ty : TypeId} (h : fn.results = #[.cell p ty, .tmp u, .tmp v]) (tmps : Array Value) (w : World) (g : Nat) (t : TypeId) (cs : Array Value) (fr : Nat × Nat) (d : TypeDesc)
    (hp : tmps.getD p undef = .pointer (some ⟨g, 0, none⟩)) (hg : w.heap[g]? = some (.cells cs t fr))
    (hu : P.underlying ty = some d) (hd : (match d with | .struct _ | .array _ _ => true | _ => false) = true) (hi : (P.info? ty).map (·.size) = some cs.size) :
    (results fn tmps).run P w = .ok (.tuple #[.agg cs, tmps.getD u undef, tmps.getD v undef]) w := by
  have hp' : tmps[p]?.getD undef = .pointer (some ⟨g, 0, none⟩) := by simpa using hp
  simp [results, h, hp', asAddr, run_loadVar_row w g t ty cs fr d hg hu hd hi]

theorem cSame_yes (A B : Option Addr) (n c d : Nat) (hn : n ≤ 4096) (f : Nat → Nat) (w : World) (ha : RowIs w A n (us f)) (hb : RowIs w B n (us f)) :
    Calls Try.prog 23 #[.slice A n c, .slice B n d] w fun e w' => e = .returned (.bool true) ∧ Drew w w' := by
  have HA := Lib.hid ha; have HB := Lib.hid hb
  clear ha hb
  go_enter Try.func23, Try.ntmps23
  go_wp2_with fail
  go_loopw [5] (fun i wr => ∃ k : Nat, i = .int .i64 k ∧ k ≤ n ∧ Drew w wr) (fun i _ => n - (intOf i).toNat)
  case atStart => exact ⟨0, rfl, Nat.zero_le _, Drew.refl _⟩
  case round =>
    obtain ⟨k, rfl, hk, hd⟩ := hrel
    by_cases hlt : k < n
    · obtain ⟨b1, off1, rfl, _, x1⟩ := hd.row HA.out (by omega)
      obtain ⟨b2, off2, rfl, _, x2⟩ := hd.row HB.out (by omega)
      have p1 : wr.cell? ⟨b1, off1 + k, none⟩ = some (.int .u64 (f k : Nat)) := x1 k hlt
      have p2 : wr.cell? ⟨b2, off2 + k, none⟩ = some (.int .u64 (f k : Nat)) := x2 k hlt
      have HD := Lib.hid (hd.more 1)
      clear x1 x2 hd
      go_upto_region 6 with fail
      go_region
      go_wp2_with fail
      go_roundw
      case rel => exact ⟨k + 1, by go_num, by omega, HD.out⟩
      case measure => simp [intOf]; omega
    · obtain rfl : k = n := by omega
      have HD := Lib.hid hd; clear hd
      go_wp2_with fail
      go_ret
      exact ⟨rfl, HD.out⟩

theorem rowOf_mem {n : Nat} {f : Nat → Value} (h : ∀ i, (f i).oneCell' = true) : ∀ v ∈ (rowOf n f).toList, v.oneCell' = true := by
  intro v hv
  simp only [rowOf, List.mem_map] at hv
  obtain ⟨i, _, rfl⟩ := hv
  exact h i
theorem infoI : ∃ i, Try.prog.info? 24 = some i ∧ i.zero = some (.int .u64 0) ∧ i.size = 1 ∧ i.bytes = 8 := by
  have h : (Try.prog.info? 24).map (fun i => (i.zero, i.size, i.bytes)) = some (some (.int .u64 0), 1, 8) := by kernel_rfl
  cases hi : Try.prog.info? 24 with
  | none => rw [hi] at h; cases h
  | some i => rw [hi] at h; simp at h; exact ⟨i, rfl, h⟩
/-- An access: which, of what, what is asked for, what it becomes. -/
structure Opn where
  k : Int
  a : Int
  old : Nat
  v : Nat
def opR (o : Opn) : Nat → Value
  | 0 => .int .i64 o.k
  | 1 => .int .i64 o.a
  | 2 => .int .u64 (o.old : Nat)
  | _ => .int .u64 (o.v : Nat)
def OkO (o : Opn) : Prop := (-9223372036854775808 ≤ o.k ∧ o.k ≤ 9223372036854775807) ∧ (-9223372036854775808 ≤ o.a ∧ o.a ≤ 9223372036854775807) ∧ o.old < 18446744073709551616 ∧ o.v < 18446744073709551616
def doM (s : Mem) (o : Opn) : Mem := bif decide (o.k = 0) then touch s o.a else bif decide (o.k = 1) then storeM s o.a o.v else casM s o.a o.old o.v
def doV (s : Mem) (o : Opn) : Nat := bif decide (o.k = 0) then loadV s o.a else 0
def doB (s : Mem) (o : Opn) : Bool := bif decide (o.k = 0) then false else bif decide (o.k = 1) then false else casB s o.a o.old

theorem row_cells {w : World} {g : Nat} {t : TypeId} {v : Value} {s : Mem} (hr : Row w g t 6 (memV v s)) : w.cell? ⟨g, 0, none⟩ = some v ∧ w.cell? ⟨g, 1, none⟩ = some (.int .i64 s.acc) ∧ w.cell? ⟨g, 2, none⟩ = some (.int .i64 s.wr) ∧
    w.cell? ⟨g, 3, none⟩ = some (.int .i64 s.la) ∧ w.cell? ⟨g, 4, none⟩ = some (.bool s.named) ∧ w.cell? ⟨g, 5, none⟩ = some (.bool s.fault) :=
  ⟨hr.cell (i := 0) (by omega), hr.cell (i := 1) (by omega), hr.cell (i := 2) (by omega), hr.cell (i := 3) (by omega), hr.cell (i := 4) (by omega), hr.cell (i := 5) (by omega)⟩
theorem row_frozen {w : World} {g : Nat} {t : TypeId} {f : Nat → Value} (hr : Row w g t 6 f) : w.frozen? ⟨g, 0, none⟩ = false ∧ w.frozen? ⟨g, 1, none⟩ = false ∧ w.frozen? ⟨g, 2, none⟩ = false ∧ w.frozen? ⟨g, 3, none⟩ = false ∧ w.frozen? ⟨g, 4, none⟩ = false ∧ w.frozen? ⟨g, 5, none⟩ = false :=
  ⟨hr.frozen 0, hr.frozen 1, hr.frozen 2, hr.frozen 3, hr.frozen 4, hr.frozen 5⟩
theorem op_cells {w : World} {g : Nat} {t : TypeId} {o : Opn} (hr : Row w g t 4 (opR o)) : w.cell? ⟨g, 0, none⟩ = some (.int .i64 o.k) ∧ w.cell? ⟨g, 1, none⟩ = some (.int .i64 o.a) ∧ w.cell? ⟨g, 2, none⟩ = some (.int .u64 (o.old : Nat)) ∧
    w.cell? ⟨g, 3, none⟩ = some (.int .u64 (o.v : Nat)) :=
  ⟨hr.cell (i := 0) (by omega), hr.cell (i := 1) (by omega), hr.cell (i := 2) (by omega), hr.cell (i := 3) (by omega)⟩

theorem mem_fold (v : Value) (s : Mem) : #[v, .int .i64 s.acc, .int .i64 s.wr, .int .i64 s.la, .bool s.named, .bool s.fault] = rowOf 6 (memV v s) := rfl
theorem mem_one (v : Value) (s : Mem) (hv : v.oneCell' = true := by rfl) : (rowOf 6 (memV v s)).all (·.oneCell') = true := rowOf_one fun i => by
  match i with
  | 0 => exact hv
  | 1 => rfl
  | 2 => rfl
  | 3 => rfl
  | 4 => rfl
  | _ + 5 => rfl
theorem put_row2 (v u : Value) (s : Mem) (a : Int) (x : Nat) (i : Nat) (hi : i < 6) : (if i = 2 then Value.int .i64 (s.wr + 1) else if i = 0 then v else memV u s i) = memV v (putS s a x) i := by
  match i, hi with
  | 0, _ => rfl
  | 1, _ => rfl
  | 2, _ => rfl
  | 3, _ => rfl
  | 4, _ => rfl
  | 5, _ => rfl
theorem six_row {W : World} {g : Nat} {t : TypeId} {f : Nat → Value} (v : Value) (s : Mem) (h : Row W g t 6 f) :
    Row ((((((W.setCell ⟨g, 0, none⟩ v).setCell ⟨g, 1, none⟩ (.int .i64 s.acc)).setCell ⟨g, 2, none⟩ (.int .i64 s.wr)).setCell ⟨g, 3, none⟩ (.int .i64 s.la)).setCell ⟨g, 4, none⟩ (.bool s.named)).setCell ⟨g, 5, none⟩ (.bool s.fault)) g t 6 (memV v s) :=
  ((((((h.set_ 0 _).set_ 1 _).set_ 2 _).set_ 3 _).set_ 4 _).set_ 5 _).congr fun i hi => by
    match i, hi with
    | 0, _ => rfl
    | 1, _ => rfl
    | 2, _ => rfl
    | 3, _ => rfl
    | 4, _ => rfl
    | 5, _ => rfl
theorem six_only (v : Value) (s : Mem) (W : World) (g : Nat) :
    Only (fun i => i = g) W ((((((W.setCell ⟨g, 0, none⟩ v).setCell ⟨g, 1, none⟩ (.int .i64 s.acc)).setCell ⟨g, 2, none⟩ (.int .i64 s.wr)).setCell ⟨g, 3, none⟩ (.int .i64 s.la)).setCell ⟨g, 4, none⟩ (.bool s.named)).setCell ⟨g, 5, none⟩ (.bool s.fault)).drew := by
  refine Only.drew (Only.setCell (Only.setCell (Only.setCell (Only.setCell (Only.setCell (Only.setCell (Only.refl _ W) ?_ _) ?_ _) ?_ _) ?_ _) ?_ _) ?_ _)
  all_goals rfl
/-- What the document's memory is behind an access: where its words lie now. -/
def DoPost (w : World) (A : Option Addr) (s : Mem) (u : Nat) (b : Bool) (e : Ending) (w' : World) : Prop :=
  ∃ A' c', e = .returned (.tuple #[.agg (rowOf 6 (memV (.slice A' s.n c') s)), .int .u64 (u : Nat), .bool b]) ∧ RowIs w' A' s.n (us s.f) ∧ Below w.heap.size w w' ∧ ∀ a, A' = some a → A = some a ∨ w.heap.size ≤ a.block

section
variable (A : Option Addr) (c : Nat) (s : Mem) (hs : OkM s) (o : Opn) (w : World) (hA : RowIs w A s.n (us s.f))
include hs hA
set_option maxHeartbeats 1000000 in
theorem cDo_out (hi : inB s o.a = false) : Calls Try.prog 10 #[.agg (rowOf 6 (memV (.slice A s.n c) s)), .agg (rowOf 4 (opR o))] w (DoPost w A (outS s) 0 false) := by
  have HA := Lib.hid hA
  have b0 := hs.acc0
  have b1 := hs.acc1
  have b2 := hs.top
  clear hs hA
  by_cases h0 : 0 ≤ o.a
  · have h1 : ¬ o.a < s.n := fun h1 => by rw [inB_yes h0 h1] at hi; cases hi
    clear hi
    go_enter Try.func10, Try.ntmps10
    go_upto_region 1 with fail
    generalize hW : World.alloc _ _ = W
    obtain ⟨hB, hr, ho, hq⟩ := three_blocks w 31 26 31 6 4 6 (memV (.slice _ s.n c) s) (opR o) (memV (.slice none 0 0) (mem0 0 fun _ => 0)) W hW
    clear hW
    generalize hz : w.heap.size = a1 at *
    have HZ := Lib.hid hz; clear hz
    obtain ⟨u0, u1, u2, u3, u4, u5⟩ := row_cells hr
    obtain ⟨v0, v1, v2, v3, v4, v5⟩ := row_frozen hr
    obtain ⟨o0, o1, o2, o3⟩ := op_cells ho
    have HR := Lib.hid hr; have HB := Lib.hid hB; have HO := Lib.hid ho; have HQ := Lib.hid hq
    clear hr hB ho hq
    go_upto_region 4 with fail
    generalize hW2 : World.setCell _ _ _ = W2
    obtain ⟨s2, hs2⟩ : ∃ s2, s2 = outS s := ⟨_, rfl⟩
    have hr2 : Row W2 a1 31 6 (memV (.slice A s.n c) s2) := by rw [← hW2, hs2]; exact ((HR.out.set_ 1 _).set_ 5 _).congr fun i hi => out_row _ s i hi
    have hq2 : Row W2 (a1 + 1 + 1) 31 6 (memV (.slice none 0 0) (mem0 0 fun _ => 0)) := by rw [← hW2]; exact (HQ.out.far (by simp; omega) _).far (by simp; omega) _
    have hB2 : Below a1 w W2 := by rw [← hW2]; exact (HB.out.setCell (Nat.le_refl _) _).setCell (Nat.le_refl _) _
    have hF : Hid (∀ w', Below (a1 + 1) W2 w' → DoPost w A (outS s) 0 false (.returned (.tuple #[.agg (rowOf 6 (memV (.slice A s.n c) s2)), .int .u64 (0 : Nat), .bool false])) w') := Lib.hid fun w' hb => by
      have hb' := hB2.trans (hb.mono (Nat.le_add_right a1 1))
      exact ⟨A, c, by rw [hs2]; rfl, HA.out.below (by rw [HZ.out]; exact hb'), by rw [HZ.out]; exact hb', fun a h => .inl h⟩
    clear hW2 hs2 u0 u1 u2 u3 u4 u5 v0 v1 v2 v3 v4 v5
    obtain ⟨u0, u1, u2, u3, u4, u5⟩ := row_cells hr2
    have f6 := mem_fold (.slice A s.n c) s2
    go_wp2_with (refine wpList_store_row rfl 31 _ _ rfl (a1 + 1 + 1) (rowOf 6 (memV (.slice A s.n c) s2)) rfl rfl 31 (rowOf 6 (memV (.slice none 0 0) (mem0 0 fun _ => 0))) hq2 (by kernel_rfl) rfl (mem_one _ _) ?_)
    exact bodyPost_ret (results_row_tmp2 (p := 4) (u := 5) (v := 6) (ty := 31) (by kernel_rfl) _ _ (a1 + 1 + 1) 31 (rowOf 6 (memV (.slice A s.n c) s2)) (0, 0) _ rfl (Row.setRow_ hq2 _) Try.underlying31 rfl (by kernel_rfl)) rfl
      (hF.out _ (below_setRow_ (Below.refl _ _) (by omega) _))
  · clear hi
    go_enter Try.func10, Try.ntmps10
    go_upto_region 1 with fail
    generalize hW : World.alloc _ _ = W
    obtain ⟨hB, hr, ho, hq⟩ := three_blocks w 31 26 31 6 4 6 (memV (.slice _ s.n c) s) (opR o) (memV (.slice none 0 0) (mem0 0 fun _ => 0)) W hW
    clear hW
    generalize hz : w.heap.size = a1 at *
    have HZ := Lib.hid hz; clear hz
    obtain ⟨u0, u1, u2, u3, u4, u5⟩ := row_cells hr
    obtain ⟨v0, v1, v2, v3, v4, v5⟩ := row_frozen hr
    obtain ⟨o0, o1, o2, o3⟩ := op_cells ho
    have HR := Lib.hid hr; have HB := Lib.hid hB; have HO := Lib.hid ho; have HQ := Lib.hid hq
    clear hr hB ho hq
    go_upto_region 4 with fail
    generalize hW2 : World.setCell _ _ _ = W2
    obtain ⟨s2, hs2⟩ : ∃ s2, s2 = outS s := ⟨_, rfl⟩
    have hr2 : Row W2 a1 31 6 (memV (.slice A s.n c) s2) := by rw [← hW2, hs2]; exact ((HR.out.set_ 1 _).set_ 5 _).congr fun i hi => out_row _ s i hi
    have hq2 : Row W2 (a1 + 1 + 1) 31 6 (memV (.slice none 0 0) (mem0 0 fun _ => 0)) := by rw [← hW2]; exact (HQ.out.far (by simp; omega) _).far (by simp; omega) _
    have hB2 : Below a1 w W2 := by rw [← hW2]; exact (HB.out.setCell (Nat.le_refl _) _).setCell (Nat.le_refl _) _
    have hF : Hid (∀ w', Below (a1 + 1) W2 w' → DoPost w A (outS s) 0 false (.returned (.tuple #[.agg (rowOf 6 (memV (.slice A s.n c) s2)), .int .u64 (0 : Nat), .bool false])) w') := Lib.hid fun w' hb => by
      have hb' := hB2.trans (hb.mono (Nat.le_add_right a1 1))
      exact ⟨A, c, by rw [hs2]; rfl, HA.out.below (by rw [HZ.out]; exact hb'), by rw [HZ.out]; exact hb', fun a h => .inl h⟩
    clear hW2 hs2 u0 u1 u2 u3 u4 u5 v0 v1 v2 v3 v4 v5
    obtain ⟨u0, u1, u2, u3, u4, u5⟩ := row_cells hr2
    have f6 := mem_fold (.slice A s.n c) s2
    go_wp2_with (refine wpList_store_row rfl 31 _ _ rfl (a1 + 1 + 1) (rowOf 6 (memV (.slice A s.n c) s2)) rfl rfl 31 (rowOf 6 (memV (.slice none 0 0) (mem0 0 fun _ => 0))) hq2 (by kernel_rfl) rfl (mem_one _ _) ?_)
    exact bodyPost_ret (results_row_tmp2 (p := 4) (u := 5) (v := 6) (ty := 31) (by kernel_rfl) _ _ (a1 + 1 + 1) 31 (rowOf 6 (memV (.slice A s.n c) s2)) (0, 0) _ rfl (Row.setRow_ hq2 _) Try.underlying31 rfl (by kernel_rfl)) rfl
      (hF.out _ (below_setRow_ (Below.refl _ _) (by omega) _))

set_option maxHeartbeats 1000000 in
theorem cDo_load (k : Nat) (hk : o.a = k) (hkn : k < s.n) (h0 : o.k = 0) : Calls Try.prog 10 #[.agg (rowOf 6 (memV (.slice A s.n c) s)), .agg (rowOf 4 (opR o))] w (DoPost w A (inS s k) (s.f k) false) := by
  have b0 := hs.acc0
  have b1 := hs.acc1
  have b2 := hs.top
  obtain ⟨b, off, rfl, hb⟩ := hA (by omega)
  have HA := Lib.hid hb
  have HA2 := Lib.hid hA
  clear hs hA hb
  go_enter Try.func10, Try.ntmps10
  go_upto_region 1 with fail
  generalize hW : World.alloc _ _ = W
  obtain ⟨hB, hr, ho, hq⟩ := three_blocks w 31 26 31 6 4 6 (memV (.slice _ s.n c) s) (opR o) (memV (.slice none 0 0) (mem0 0 fun _ => 0)) W hW
  clear hW
  generalize hz : w.heap.size = a1 at *
  have HZ := Lib.hid hz; clear hz
  obtain ⟨u0, u1, u2, u3, u4, u5⟩ := row_cells hr
  obtain ⟨v0, v1, v2, v3, v4, v5⟩ := row_frozen hr
  obtain ⟨o0, o1, o2, o3⟩ := op_cells ho
  have HR := Lib.hid hr; have HB := Lib.hid hB; have HO := Lib.hid ho; have HQ := Lib.hid hq
  clear hr hB ho hq
  rw [hk] at o1
  go_upto_region 7 with fail
  generalize hW2 : World.setCell _ _ _ = W2
  obtain ⟨s2, hs2⟩ : ∃ s2, s2 = inS s k := ⟨_, rfl⟩
  have hr2 : Row W2 a1 31 6 (memV (.slice (some ⟨b, off, none⟩) s.n c) s2) := by rw [← hW2, hs2]; exact (((HR.out.set_ 1 _).set_ 3 _).set_ 4 _).congr fun i hi => touch_row _ s k i hi
  have hq2 : Row W2 (a1 + 1 + 1) 31 6 (memV (.slice none 0 0) (mem0 0 fun _ => 0)) := by rw [← hW2]; exact ((HQ.out.far (by simp; omega) _).far (by simp; omega) _).far (by simp; omega) _
  have ho2 : Row W2 (a1 + 1) 26 4 (opR o) := by rw [← hW2]; exact ((HO.out.far (by simp) _).far (by simp) _).far (by simp) _
  have hB2 : Below a1 w W2 := by rw [← hW2]; exact ((HB.out.setCell (Nat.le_refl _) _).setCell (Nat.le_refl _) _).setCell (Nat.le_refl _) _
  clear hW2 u0 u1 u2 u3 u4 u5 v0 v1 v2 v3 v4 v5 o0 o1 o2 o3
  obtain ⟨u0, u1, u2, u3, u4, u5⟩ := row_cells hr2
  obtain ⟨o0, o1, o2, o3⟩ := op_cells ho2
  rw [hk] at o1
  have uk : W2.cell? ⟨b, off + k, none⟩ = some (.int .u64 (s.f k : Nat)) := by rw [hB2.cell (p := ⟨b, off + k, none⟩) HA.out.1]; exact HA.out.2 k hkn
  have f6 := mem_fold (.slice (some ⟨b, off, none⟩) s.n c) s2
  go_upto_region 9 with fail
  have hF : Hid (∀ w', Below (a1 + 1) W2 w' → DoPost w (some ⟨b, off, none⟩) (inS s k) (s.f k) false (.returned (.tuple #[.agg (rowOf 6 (memV (.slice (some ⟨b, off, none⟩) s.n c) s2)), .int .u64 (s.f k : Nat), .bool false])) w') := Lib.hid fun w' hb => by
    have hb' := hB2.trans (hb.mono (Nat.le_add_right a1 1))
    exact ⟨_, c, by rw [hs2]; rfl, HA2.out.below (by rw [HZ.out]; exact hb'), by rw [HZ.out]; exact hb', fun a h => .inl h⟩
  clear hs2 u0 u1 u2 u3 u4 u5 f6
  obtain ⟨u0, u1, u2, u3, u4, u5⟩ := row_cells hr2
  have f6 := mem_fold (.slice (some ⟨b, off, none⟩) s.n c) s2
  go_wp2_with (refine wpList_store_row rfl 31 _ _ rfl (a1 + 1 + 1) (rowOf 6 (memV (.slice (some ⟨b, off, none⟩) s.n c) s2)) rfl rfl 31 (rowOf 6 (memV (.slice none 0 0) (mem0 0 fun _ => 0))) hq2 (by kernel_rfl) rfl (mem_one _ _) ?_)
  exact bodyPost_ret (results_row_tmp2 (p := 4) (u := 5) (v := 6) (ty := 31) (by kernel_rfl) _ _ (a1 + 1 + 1) 31 (rowOf 6 (memV (.slice (some ⟨b, off, none⟩) s.n c) s2)) (0, 0) _ rfl (Row.setRow_ hq2 _) Try.underlying31 rfl (by kernel_rfl)) rfl
    (hF.out _ (below_setRow_ (Below.refl _ _) (by omega) _))

set_option maxHeartbeats 1000000 in
theorem cDo_ne (k : Nat) (hk : o.a = k) (hkn : k < s.n) (h0 : o.k ≠ 0) (h1 : o.k ≠ 1) (hne : s.f k ≠ o.old) : Calls Try.prog 10 #[.agg (rowOf 6 (memV (.slice A s.n c) s)), .agg (rowOf 4 (opR o))] w (DoPost w A (inS s k) 0 false) := by
  have b0 := hs.acc0
  have b1 := hs.acc1
  have b2 := hs.top
  obtain ⟨b, off, rfl, hb⟩ := hA (by omega)
  have HA := Lib.hid hb
  have HA2 := Lib.hid hA
  clear hs hA hb
  go_enter Try.func10, Try.ntmps10
  go_upto_region 1 with fail
  generalize hW : World.alloc _ _ = W
  obtain ⟨hB, hr, ho, hq⟩ := three_blocks w 31 26 31 6 4 6 (memV (.slice _ s.n c) s) (opR o) (memV (.slice none 0 0) (mem0 0 fun _ => 0)) W hW
  clear hW
  generalize hz : w.heap.size = a1 at *
  have HZ := Lib.hid hz; clear hz
  obtain ⟨u0, u1, u2, u3, u4, u5⟩ := row_cells hr
  obtain ⟨v0, v1, v2, v3, v4, v5⟩ := row_frozen hr
  obtain ⟨o0, o1, o2, o3⟩ := op_cells ho
  have HR := Lib.hid hr; have HB := Lib.hid hB; have HO := Lib.hid ho; have HQ := Lib.hid hq
  clear hr hB ho hq
  rw [hk] at o1
  go_upto_region 7 with fail
  generalize hW2 : World.setCell _ _ _ = W2
  obtain ⟨s2, hs2⟩ : ∃ s2, s2 = inS s k := ⟨_, rfl⟩
  have hr2 : Row W2 a1 31 6 (memV (.slice (some ⟨b, off, none⟩) s.n c) s2) := by rw [← hW2, hs2]; exact (((HR.out.set_ 1 _).set_ 3 _).set_ 4 _).congr fun i hi => touch_row _ s k i hi
  have hq2 : Row W2 (a1 + 1 + 1) 31 6 (memV (.slice none 0 0) (mem0 0 fun _ => 0)) := by rw [← hW2]; exact ((HQ.out.far (by simp; omega) _).far (by simp; omega) _).far (by simp; omega) _
  have ho2 : Row W2 (a1 + 1) 26 4 (opR o) := by rw [← hW2]; exact ((HO.out.far (by simp) _).far (by simp) _).far (by simp) _
  have hB2 : Below a1 w W2 := by rw [← hW2]; exact ((HB.out.setCell (Nat.le_refl _) _).setCell (Nat.le_refl _) _).setCell (Nat.le_refl _) _
  clear hW2 u0 u1 u2 u3 u4 u5 v0 v1 v2 v3 v4 v5 o0 o1 o2 o3
  obtain ⟨u0, u1, u2, u3, u4, u5⟩ := row_cells hr2
  obtain ⟨o0, o1, o2, o3⟩ := op_cells ho2
  rw [hk] at o1
  have uk : W2.cell? ⟨b, off + k, none⟩ = some (.int .u64 (s.f k : Nat)) := by rw [hB2.cell (p := ⟨b, off + k, none⟩) HA.out.1]; exact HA.out.2 k hkn
  have f6 := mem_fold (.slice (some ⟨b, off, none⟩) s.n c) s2
  have d1 : (o.k != 1) = true := by simp [h1]
  have d2 : ((s.f k : Int) != (o.old : Int)) = true := by simp; omega
  go_upto_region 11 with fail
  have hF : Hid (∀ w', Below (a1 + 1) W2 w' → DoPost w (some ⟨b, off, none⟩) (inS s k) 0 false (.returned (.tuple #[.agg (rowOf 6 (memV (.slice (some ⟨b, off, none⟩) s.n c) s2)), .int .u64 (0 : Nat), .bool false])) w') := Lib.hid fun w' hb => by
    have hb' := hB2.trans (hb.mono (Nat.le_add_right a1 1))
    exact ⟨_, c, by rw [hs2]; rfl, HA2.out.below (by rw [HZ.out]; exact hb'), by rw [HZ.out]; exact hb', fun a h => .inl h⟩
  clear hs2 u0 u1 u2 u3 u4 u5 f6
  obtain ⟨u0, u1, u2, u3, u4, u5⟩ := row_cells hr2
  have f6 := mem_fold (.slice (some ⟨b, off, none⟩) s.n c) s2
  go_wp2_with (refine wpList_store_row rfl 31 _ _ rfl (a1 + 1 + 1) (rowOf 6 (memV (.slice (some ⟨b, off, none⟩) s.n c) s2)) rfl rfl 31 (rowOf 6 (memV (.slice none 0 0) (mem0 0 fun _ => 0))) hq2 (by kernel_rfl) rfl (mem_one _ _) ?_)
  exact bodyPost_ret (results_row_tmp2 (p := 4) (u := 5) (v := 6) (ty := 31) (by kernel_rfl) _ _ (a1 + 1 + 1) 31 (rowOf 6 (memV (.slice (some ⟨b, off, none⟩) s.n c) s2)) (0, 0) _ rfl (Row.setRow_ hq2 _) Try.underlying31 rfl (by kernel_rfl)) rfl
    (hF.out _ (below_setRow_ (Below.refl _ _) (by omega) _))

end
end Go.Proofs.Ytdgafadbajcllaa
