/- Package script: numbers and entries as bytes. · Package script: a call as bytes. · Package script: a configuration as bytes. · Package script: Put. · Package script: Same, of scripts of any size; slices.Equal of calls, of entries. · Package script: Same, within the limits. · Package script: its contracts, in one place. · Law 18: lives. -/
import Derived.Test.YtdbankogamolcaaDoorJ13
import Derived.Test.YtdbankogamolcaaDoorJ4
import Derived.Test.YtdbankogamolcaaDoorJ8
import Derived.Test.YtdbankogamolcaaDoorJ14
import Derived.Deep.RegionHeld3
import Derived.BigQuiet
import Derived.Test.YtdbankogamolcaaDoorJ11
import Derived.Great.BuildSlice
import Derived.Deep.WholeRow
namespace Go.Proofs.YtdbankogamolcaaDoor
set_option linter.unusedSimpArgs false
set_option linter.unusedVariables false
set_option linter.unusedSimpArgs false
open Go.ChangeShapes Go.WideShapes Go.ChangeAt Go.RowKit

def ownF (v : Value) : Nat → Prop := fun b => v.ownBlock = some b
theorem only_grown {F : Nat → Prop} {w w1 w2 : World} {row : Option Nat} (h : Only F w w1) (hg : w1.grownBy w2 row) (hr : ∀ b, row = some b → F b ∨ w.heap.size ≤ b) : Only F w w2 :=
  ⟨h.1.trans ⟨hg.os, hg.tape, hg.output, hg.size, fun i hi => absurd hi (Nat.not_lt_zero _)⟩, fun i hi hn => (hg.block i (Nat.lt_of_lt_of_le hi h.size) (fun e => by
    rcases hr i e.symm with h1 | h1
    · exact hn h1
    · omega)).trans (h.2 i hi hn)⟩
/-- What an append onto a row of the caller's own does. -/
structure PutB (w : World) (B : Nat) (v : Value) (M : List Int) (v' : Value) (W : World) : Prop where
  own : W.ownsRow B 5 1 v' M.length (flatB M)
  on : Only (ownF v) w W
  at_ : v'.ownBlock = v.ownBlock ∨ ∀ b, v'.ownBlock = some b → w.heap.size ≤ b
  le : B ≤ W.heap.size
section
variable {w w1 w2 W W' : World} {B : Nat} {v v1 v2 : Value} {L M N : List Int}
theorem PutB.start (ho : w.ownsRow B 5 1 v L.length (flatB L)) (hB : B ≤ w.heap.size) : PutB w B v L v w := ⟨ho, Only.refl _ _, .inl rfl, hB⟩
theorem PutB.keep (h : PutB w B v M v1 W) (hb : Below W.heap.size W W') : PutB w B v M v1 W' := ⟨own_keep h.own hb, h.on.then hb, h.at_, Nat.le_trans h.le hb.size⟩
theorem PutB.trans (h : PutB w B v M v1 W) (k : PutB W B v1 N v2 W') : PutB w B v N v2 W' := by
  refine ⟨k.own, ⟨h.on.1.trans k.on.1, fun i hi hn => ?_⟩, ?_, k.le⟩
  · refine (k.on.2 i (Nat.lt_of_lt_of_le hi h.on.size) fun e => ?_).trans (h.on.2 i hi hn)
    have e' : v1.ownBlock = some i := e
    rcases h.at_ with h1 | h1
    · exact hn (show v.ownBlock = some i by rw [← h1]; exact e')
    · have := h1 i e'; omega
  · rcases k.at_ with h1 | h1
    · rcases h.at_ with h2 | h2
      · exact .inl (h1.trans h2)
      · exact .inr fun b hb => h2 b (by rw [← h1]; exact hb)
    · exact .inr fun b hb => Nat.le_trans h.on.size (h1 b hb)
theorem PutB.grow (h : PutB w B v M v1 W) (hown : W'.ownsRow B 5 1 v2 (M.length + N.length) (flatB M ++ flatB N)) (hg : W.grownBy W' v1.ownBlock) (hat : v2.ownBlock = v1.ownBlock ∨ v2.ownBlock = some W.heap.size) : PutB w B v (M ++ N) v2 W' := by
  refine ⟨by rw [flatB_append, List.length_append]; exact hown, only_grown h.on hg fun b hb => ?_, ?_, Nat.le_trans h.le hg.size⟩
  · rcases h.at_ with h1 | h1
    · exact .inl (show v.ownBlock = some b by rw [← h1]; exact hb)
    · exact .inr (h1 b hb)
  · rcases hat with h1 | h1
    · rcases h.at_ with h2 | h2
      · exact .inl (h1.trans h2)
      · exact .inr fun b hb => h2 b (by rw [← h1]; exact hb)
    · exact .inr fun b hb => by rw [h1] at hb; cases hb; exact h.on.size
end
/-- An append of bytes, as an operation of a plain region. -/
theorem wpB_put {ops : Array Oper} {rest : List Oper} {o : Oper} {a : Act} {W : World} {Q : Exit → Act → World → Prop} (hgd : o.guard = none) (s x : Operand)
    (ho : o.op = .call { callee := .builtin .append, args := #[s, x], argTypes := #[39, 39] }) {w : World} {B : Nat} {v v1 : Value} {M : List Int} (hs : a.eval s = v1) (hR : PutB w B v M v1 W)
    (p : Addr) (c : Nat) (N : List Int) (hx : a.eval x = .slice (some p) N.length c) (hl : LiesC W (some p) (flatB N)) (hb : M.length + N.length ≤ 100000000)
    (h : ∀ v' w', PutB w B v (M ++ N) v' w' → W.grownBy w' v1.ownBlock → wpList Tryd.prog ops Q rest (a.put o.dst v') w') : wpList Tryd.prog ops Q (o :: rest) a W := by
  obtain ⟨j0, hj0, hj1, hj2, hj3⟩ := infoB
  refine wpList_append_own_at hgd s x 39 ho B 5 j0 (.int .u8 0) 1 1 Tryd.underlying39 hj0 hj1 hj2 hj3 rfl (by decide) v1 M.length (flatB M) hs hR.own p N.length c (flatB N) hx (flatB_length N) (fun j u hj => hl.news j u hj) (flatB_one N) (by unfold maxLen; omega) (by omega) hR.le ?_
  intro v' w' h1 h2 h3
  exact h v' w' (hR.grow h1 h2 h3) h2
set_option maxHeartbeats 2000000 in
theorem sNumber_any (B : Nat) (v : Value) (L : List Int) (n : Nat) (hn : n < 18446744073709551616) (s : Nat) (hs : s ≤ 8) (hL : L.length ≤ 90000000) (w : World) (ho : w.ownsRow B 5 1 v L.length (flatB L)) (hB : B ≤ w.heap.size) :
    Calls Tryd.prog 53 #[v, .int .u64 n, .int .i64 s] w fun e w' => ∃ v', e = .returned v' ∧ PutB w B v (L ++ numB n s) v' w' := by
  have HX : Hid (∀ k, numB n (k + 1) = numB n k ++ [(n : Int) / 256 ^ k % 256]) := Lib.hid fun _ => rfl
  have HL := Lib.hid (numB_len n)
  have H0 := Lib.hid (PutB.start ho hB)
  clear ho hB
  obtain ⟨A, c, hv, -⟩ := lnIs_of_own H0.out.own
  have HV := Lib.hid hv
  clear hv
  go_enter Tryd.func53, Tryd.ntmps53
  go_wp2_with fail
  go_loopw [0, 9] (fun b i wr => ∃ k : Nat, i = .int .i64 k ∧ k ≤ s ∧ PutB w B v (L ++ numB n k) b wr) (fun _ i _ => s - (intOf i).toNat)
  case atStart => exact ⟨0, rfl, Nat.zero_le _, by show PutB w B v (L ++ []) v w; rw [List.append_nil]; exact H0.out⟩
  case round =>
    obtain ⟨k, rfl, hk, R⟩ := hrel
    by_cases hlt : k < s
    · have HS := Lib.hid (HX.out k)
      have HLk := HL.out k
      have HR := Lib.hid R; clear R
      have hcb := cut_byte hn (i := k) (by omega)
      have CC := Lib.hid (fun W => fCut_any n hn ((k : Int) * 8) 8 (by omega) (by omega) W)
      have hlt2 := cut_lt hn (i := k) (by omega)
      rw [← hcb] at HS
      clear hcb
      generalize numB n k = xs at *
      generalize cutN n ((k : Int) * 8) 8 = x at *
      have d1 : IntKind.u8.wrap (x : Int) = x := by rw [IntKind.wrap_u8]; omega
      have d2 : wrap64 ((k : Int) * 8) = (k : Int) * 8 := by unfold wrap64; omega
      go_wp2_with (first | (go_at_call 67; refine (CC.out _).mono ?_; rintro e w1 ⟨rfl, rfl⟩) | (at_builtin; refine wpB_put rfl _ _ rfl rfl (HR.out.keep ((Below.refl _ _).alloc (Nat.le_refl _) (.cells #[.int .u8 x] 5))) ⟨wr.heap.size, 0, none⟩ 1 [(x : Int)] rfl (lies_litB wr 5 rfl) (by rw [List.length_append]; show L.length + xs.length + 1 ≤ _; omega) ?_))
      intro v' w2 hP _
      have HZ := Lib.hid hP
      clear hP
      go_wp2_with fail
      go_roundw
      case rel => exact ⟨k + 1, by go_num, by omega, by rw [HS.out]; first | exact HZ.out | (rw [← List.append_assoc]; exact HZ.out)⟩
      case measure => simp [intOf]; omega
    · obtain rfl : k = s := by omega
      go_wp2_with fail
      go_ret
      exact ⟨_, rfl, R⟩
/-- An entry's byte. -/
theorem sEntry_any (th wh : Nat) (h1 : th < 8) (h2 : wh < 4) (w : World) : Calls Tryd.prog 31 #[.agg #[.int .i64 th, .int .i64 wh]] w fun e w' => e = .returned (.int .u8 (((th : Int) + 8 * wh) % 256)) ∧ Below w.heap.size w w' := by
  obtain ⟨W, hW⟩ : ∃ W, w.alloc (.cells #[.int .i64 th, .int .i64 wh] 51) = W := ⟨_, rfl⟩
  have hx : Cells W w.heap.size 51 [.int .i64 th, .int .i64 wh] := by rw [← hW]; exact Cells.new w #[.int .i64 th, .int .i64 wh] 51
  have HB : Hid (Below w.heap.size w W) := Lib.hid (by rw [← hW]; exact (Below.refl _ _).alloc (Nat.le_refl _) _)
  have p0 := hx.cell0
  have p1 := hx.cell1
  have e1 := ent_byte h1 h2
  have hs1 : setN 0 0 3 th < 18446744073709551616 := bits64 _
  have C1 : Hid (∀ W, Calls Tryd.prog 55 #[.int .u64 0, .int .i64 0, .int .i64 3, .int .u64 (th : Nat)] W fun e w' => e = .returned (.int .u64 ((setN 0 0 3 th : Nat) : Int)) ∧ W = w') := Lib.hid (fun W => fSet_any 0 (by omega) 0 3 (by omega) (by omega) th (by omega) W)
  have C2 := Lib.hid (fun W => fSet_any (setN 0 0 3 th) hs1 3 2 (by omega) (by omega) wh (by omega) W)
  rw [e1] at C2
  generalize setN 0 0 3 th = x at *
  have d1 : IntKind.u64.wrap (th : Int) = th := by rw [IntKind.wrap_u64]; omega
  have d2 : IntKind.u64.wrap (wh : Int) = wh := by rw [IntKind.wrap_u64]; omega
  have HD : Hid (IntKind.u8.wrap ((th + 8 * wh : Nat) : Int) = ((th : Int) + 8 * wh) % 256) := Lib.hid (by rw [IntKind.wrap_u8]; omega)
  generalize ((th : Int) + 8 * wh) % 256 = y at *
  generalize th + 8 * wh = z at *
  have d3 := HD.out
  clear hx e1
  go_enter Tryd.func31, Tryd.ntmps31
  go_wp2_with (first | (go_at_call 55; with_reducible refine (C1.out _).mono ?_; rintro e w1 ⟨rfl, rfl⟩) | (go_at_call 55; with_reducible refine (C2.out _).mono ?_; rintro e w1 ⟨rfl, rfl⟩))
  go_ret
  exact ⟨rfl, HB.out⟩
end Go.Proofs.YtdbankogamolcaaDoor
namespace Go.Proofs.YtdbankogamolcaaDoor
set_option linter.unusedSimpArgs false
set_option linter.unusedVariables false
set_option linter.unusedSimpArgs false
open Go.ChangeShapes Go.WideShapes Go.ChangeAt Go.RowKit

/-- The words that a call's bytes end with. -/
def wd4 (x : Cl) : Nat → Int
  | 0 => IntKind.u64.wrap x.key
  | 1 => x.pa
  | 2 => x.pb
  | _ => x.hd
def putW (x : Cl) : Nat → List Int
  | 0 => [x.op % 256, x.l % 256, x.r % 256]
  | k + 1 => putW x k ++ numB (wd4 x k) 8
theorem putW_all (x : Cl) : putW x 4 = putC x := rfl
theorem putW_len (x : Cl) : ∀ k, (putW x k).length = 3 + 8 * k
  | 0 => rfl
  | k + 1 => by unfold putW; rw [List.length_append, numB_len, putW_len x k]; omega
theorem wd4_ok {x : Cl} (h : OkC x) (k : Nat) : 0 ≤ wd4 x k ∧ wd4 x k < 18446744073709551616 := by
  match k with
  | 0 => show 0 ≤ IntKind.u64.wrap x.key ∧ IntKind.u64.wrap x.key < _
         rw [IntKind.wrap_u64]; omega
  | 1 => exact h.pa
  | 2 => exact h.pb
  | _ + 3 => exact h.hd
theorem wd_at (x : Cl) (k : Nat) (hk : k < 4) (w : World) : (Instr.index 100 (.agg #[.int .u64 (IntKind.u64.wrap x.key), .int .u64 x.pa, .int .u64 x.pb, .int .u64 x.hd]) (.int .i64 k)).run Tryd.prog w = .ok (.int .u64 (wd4 x k)) w :=
  match k, hk with
  | 0, _ | 1, _ | 2, _ | 3, _ => by kernel_rfl
set_option maxRecDepth 100000 in
set_option maxHeartbeats 4000000 in
theorem sCall_any (B : Nat) (v : Value) (L : List Int) (x : Cl) (hx : OkC x) (hL : L.length ≤ 80000000) (w : World) (ho : w.ownsRow B 5 1 v L.length (flatB L)) (hB : B ≤ w.heap.size) :
    Calls Tryd.prog 30 #[v, .agg (rowOf 7 (cF x))] w fun e w' => ∃ v', e = .returned v' ∧ PutB w B v (L ++ putC x) v' w' := by
  have HX : Hid (∀ k, putW x (k + 1) = putW x k ++ numB (wd4 x k) 8) := Lib.hid fun _ => rfl
  have HL := Lib.hid (putW_len x)
  have HP : Hid (∀ W, w.alloc (.cells (rowOf 7 (cF x)) 61) = W → PutB w B v L v W ∧ Row W w.heap.size 61 7 (cF x)) := Lib.hid fun W hW => by
    rw [← hW]
    exact ⟨(PutB.start ho hB).keep ((Below.refl _ _).alloc (Nat.le_refl _) _), Row.new _ _ _ _ _ rfl⟩
  have HOB : Hid (v.ownBlock ≠ some w.heap.size) := Lib.hid fun e => by have := (ho.lt _ e).2; omega
  have CB := Lib.hid (fun W => fBits_any x.key hx.key W)
  have CN := Lib.hid (fun (k : Nat) v1 M h0 W h1 h2 => sNumber_any B v1 M (wd4 x k).toNat (by have := wd4_ok hx k; omega) 8 (by omega) h0 W h1 h2)
  have HWN : Hid (∀ k, (((wd4 x k).toNat : Nat) : Int) = wd4 x k) := Lib.hid fun k => by have := wd4_ok hx k; omega
  have HIX := Lib.hid (fun k hk W => wd_at x k hk W)
  clear ho hB
  go_enter Tryd.func30, Tryd.ntmps30
  go_upto_region 1 with fail
  generalize hW : World.alloc _ _ = W
  obtain ⟨h1, h2⟩ := HP.out W hW
  have HR := Lib.hid h1; have HG := Lib.hid h2
  clear hW h1 h2 HP
  have c0 := HG.out.cell (i := 0) (by omega); have c1 := HG.out.cell (i := 1) (by omega); have c6 := HG.out.cell (i := 6) (by omega)
  change W.cell? ⟨w.heap.size, 0, none⟩ = some (.int .i64 x.op) at c0
  change W.cell? ⟨w.heap.size, 1, none⟩ = some (.int .i64 x.l) at c1
  change W.cell? ⟨w.heap.size, 6, none⟩ = some (.int .i64 x.r) at c6
  generalize w.heap.size = g at *
  have d1 : IntKind.u8.wrap x.op = x.op % 256 := by rw [IntKind.wrap_u8]
  have d2 : IntKind.u8.wrap x.l = x.l % 256 := by rw [IntKind.wrap_u8]
  have d3 : IntKind.u8.wrap x.r = x.r % 256 := by rw [IntKind.wrap_u8]
  go_upto_region 2 with (at_builtin; refine wpB_put rfl _ _ rfl rfl (HR.out.keep ((Below.refl _ _).alloc (Nat.le_refl _) (.cells #[.int .u8 (x.op % 256), .int .u8 (x.l % 256), .int .u8 (x.r % 256)] 5))) ⟨W.heap.size, 0, none⟩ 3 [x.op % 256, x.l % 256, x.r % 256] rfl (lies_litB W 5 rfl) (by show L.length + 3 ≤ _; omega) ?_)
  intro v1 w1 hP hgr
  have HR1 := Lib.hid hP
  have hro : Row w1 g 61 7 (cF x) := (HG.out.alloc _).grown hgr HOB.out
  clear hP hgr HR c0 c1 c6
  have c2 := hro.cell (i := 2) (by omega); have c3 := hro.cell (i := 3) (by omega); have c4 := hro.cell (i := 4) (by omega); have c5 := hro.cell (i := 5) (by omega)
  change w1.cell? ⟨g, 2, none⟩ = some (.int .i64 x.key) at c2
  change w1.cell? ⟨g, 3, none⟩ = some (.int .u64 x.pa) at c3
  change w1.cell? ⟨g, 4, none⟩ = some (.int .u64 x.pb) at c4
  change w1.cell? ⟨g, 5, none⟩ = some (.int .u64 x.hd) at c5
  clear hro HG
  go_upto_region 2 with fail
  go_quiet ((go_at_call 54; exact Calls.quiet_of_same (quiet_eq (CB.out _))))
  clear c2 c3 c4 c5
  go_wp2_with fail
  go_loopw [0, 31] (fun b i wr => ∃ k : Nat, i = .int .i64 k ∧ k ≤ 4 ∧ PutB w B v (L ++ putW x k) b wr) (fun _ i _ => 4 - (intOf i).toNat)
  case atStart => exact ⟨0, rfl, Nat.zero_le _, HR1.out.keep (Drew.below ⟨_, rfl⟩ _)⟩
  case round =>
    clear HR1
    obtain ⟨k, rfl, hk, R⟩ := hrel
    have HR := Lib.hid R
    clear R
    by_cases hlt : k < 4
    · have hix := HIX.out k hlt
      have h4 : (k : Int) < 4 := by omega
      have HS := Lib.hid (HX.out k)
      have C1 := Lib.hid (CN.out k u0 (L ++ putW x k) (by rw [List.length_append, HL.out]; omega) wr HR.out.own HR.out.le)
      rw [HWN.out] at C1
      go_wp2_with (go_at_call 53; refine C1.out.mono ?_; rintro e w2 ⟨v2, rfl, hP⟩; have HZ := Lib.hid (HR.out.trans hP); clear hP)
      go_roundw
      case rel => exact ⟨k + 1, by go_num, by omega, by rw [HS.out, ← List.append_assoc]; exact HZ.out⟩
      case measure => simp [intOf]; omega
    · obtain rfl : k = 4 := by omega
      rw [show ((4 : Nat) : Int) = 4 from rfl]
      go_wp2_with fail
      go_ret
      exact ⟨_, rfl, HR.out⟩
end Go.Proofs.YtdbankogamolcaaDoor
namespace Go.Proofs.YtdbankogamolcaaDoor
set_option linter.unusedSimpArgs false
set_option linter.unusedVariables false
set_option linter.unusedSimpArgs false
open Go.ChangeShapes Go.WideShapes Go.ChangeAt Go.RowKit

theorem of_at (c : Nat → Int) (k : Nat) (hk : k < 8) (w : World) : (Instr.index 22 (.agg #[.int .i64 (c 2), .int .i64 (c 3), .int .i64 (c 4), .int .i64 (c 5), .int .i64 (c 6), .int .i64 (c 7), .int .i64 (c 8), .int .i64 (c 9)]) (.int .i64 k)).run Tryd.prog w = .ok (.int .i64 (c (2 + k))) w :=
  match k, hk with
  | 0, _ | 1, _ | 2, _ | 3, _ | 4, _ | 5, _ | 6, _ | 7, _ => by kernel_rfl
/-- A block of another type is no row of bytes. -/
theorem row_ne {w : World} {g n : Nat} {T : TypeId} {f : Nat → Value} {base m : Nat} {v : Value} {xs : List Value} (hc : Row w g T n f) (ho : w.ownsRow base 5 1 v m xs) (hT : T ≠ 5) : v.ownBlock ≠ some g := fun e => by
  rcases ho.2 with ⟨rfl, _⟩ | ⟨g', cap, cur, rfl, _, hg, _⟩
  · cases e
  · cases e
    have h1 : w.heap[g']? = some (.cells (rowOf n f) T (0, 0)) := hc
    rw [hg] at h1
    injection h1 with h1
    injection h1 with _ h2
    exact hT h2.symm
theorem byte_wrap (x : Int) : IntKind.u8.wrap x = x % 256 := by rw [IntKind.wrap_u8]
set_option maxRecDepth 100000 in
set_option maxHeartbeats 4000000 in
theorem sConf_any (B : Nat) (v : Value) (L : List Int) (c : Nat → Int) (hL : L.length ≤ 80000000) (w : World) (ho : w.ownsRow B 5 1 v L.length (flatB L)) (hB : B ≤ w.heap.size) :
    Calls Tryd.prog 29 #[v, .agg (rowOf 14 (ints c))] w fun e w' => ∃ v', e = .returned v' ∧ PutB w B v (L ++ putHd c) v' w' := by
  have HP : Hid (∀ W, w.alloc (.cells (rowOf 14 (ints c)) 24) = W → PutB w B v L v W ∧ Row W w.heap.size 24 14 (ints c)) := Lib.hid fun W hW => by
    rw [← hW]
    exact ⟨(PutB.start ho hB).keep ((Below.refl _ _).alloc (Nat.le_refl _) _), Row.new _ _ _ _ _ rfl⟩
  have HOB : Hid (v.ownBlock ≠ some w.heap.size) := Lib.hid fun e => by have := (ho.lt _ e).2; omega
  have HX : Hid (∀ k, putOf c (k + 1) = putOf c k ++ [c (2 + k) % 256]) := Lib.hid fun _ => rfl
  have HL := Lib.hid (putOf_len c)
  have HHD : Hid (putHd c = putOf c 8 ++ [c 10 % 256, c 11 % 256] ++ numB (IntKind.u64.wrap (c 12)) 3 ++ [c 13 % 256]) := Lib.hid rfl
  have HU : Hid (∃ n : Nat, IntKind.u64.wrap (c 12) = n ∧ n < 18446744073709551616) := Lib.hid ⟨(IntKind.u64.wrap (c 12)).toNat, by rw [IntKind.wrap_u64]; omega, by rw [IntKind.wrap_u64]; omega⟩
  have HIX := Lib.hid (fun k hk W => of_at c k hk W)
  have HBW := Lib.hid byte_wrap
  clear ho hB
  go_enter Tryd.func29, Tryd.ntmps29
  go_upto_region 1 with fail
  generalize hW : World.alloc _ _ = W
  obtain ⟨h1, h2⟩ := HP.out W hW
  have HR := Lib.hid h1
  have hro := h2
  clear hW h1 h2 HP
  obtain ⟨u0, u1, u2, u3, u4, u5, u6, u7, u8, u9, u10, u11, u12, u13⟩ := conf_cells hro
  generalize w.heap.size = g at *
  have d1 := HBW.out (c 0); have d2 := HBW.out (c 1)
  have HG := Lib.hid hro
  clear hro
  go_upto_region 2 with (at_builtin; refine wpB_put rfl _ _ rfl rfl (HR.out.keep ((Below.refl _ _).alloc (Nat.le_refl _) (.cells #[.int .u8 (c 0 % 256), .int .u8 (c 1 % 256)] 5))) ⟨W.heap.size, 0, none⟩ 2 [c 0 % 256, c 1 % 256] rfl (lies_litB W 5 rfl) (by show L.length + 2 ≤ _; omega) ?_)
  intro v1 w1 hP hgr
  have HR1 : Hid (PutB w B v (L ++ putOf c 0) v1 w1) := Lib.hid hP
  have hro : Row w1 g 24 14 (ints c) := (HG.out.alloc _).grown hgr HOB.out
  clear u0 u1 u2 u3 u4 u5 u6 u7 u8 u9 u10 u11 u12 u13 hP hgr HG HR d1 d2
  have HG := Lib.hid hro
  obtain ⟨u0, u1, u2, u3, u4, u5, u6, u7, u8, u9, u10, u11, u12, u13⟩ := conf_cells hro
  clear u0 u1 u10 u11 u12 u13 hro
  go_wp2_with fail
  clear u2 u3 u4 u5 u6 u7 u8 u9
  go_loopw [0, 18] (fun b i wr => ∃ k : Nat, i = .int .i64 k ∧ k ≤ 8 ∧ PutB w B v (L ++ putOf c k) b wr ∧ Row wr g 24 14 (ints c)) (fun _ i _ => 8 - (intOf i).toNat)
  case atStart => exact ⟨0, rfl, Nat.zero_le _, HR1.out, HG.out⟩
  case round =>
    clear HR1 HG
    obtain ⟨k, rfl, hk, R, hro⟩ := hrel
    have HR := Lib.hid R; have HG := Lib.hid hro
    clear R hro
    by_cases hlt : k < 8
    · have hix := HIX.out k hlt
      have h4 : (k : Int) < 8 := by omega
      have HS := Lib.hid (HX.out k)
      have d1 := HBW.out (c (2 + k))
      have HLk := HL.out k
      have HN0 := Lib.hid (row_ne HG.out HR.out.own (by decide))
      generalize c (2 + k) = y at *
      go_wp2_with (at_builtin; refine wpB_put rfl _ _ rfl rfl (HR.out.keep ((Below.refl _ _).alloc (Nat.le_refl _) (.cells #[.int .u8 (y % 256)] 5))) ⟨wr.heap.size, 0, none⟩ 1 [y % 256] rfl (lies_litB wr 5 rfl) (by rw [List.length_append]; show L.length + (putOf c k).length + 1 ≤ _; omega) ?_)
      intro v2 w2 hP hgr
      have HZ := Lib.hid hP
      have HG2 := Lib.hid ((HG.out.alloc _).grown hgr HN0.out)
      clear hP hgr
      go_wp2_with fail
      go_roundw
      case rel => exact ⟨k + 1, by go_num, by omega, by rw [HS.out]; first | exact HZ.out | (rw [← List.append_assoc]; exact HZ.out), HG2.out⟩
      case measure => simp [intOf]; omega
    · obtain rfl : k = 8 := by omega
      rw [show ((8 : Nat) : Int) = 8 from rfl]
      have HL8 := HL.out 8
      have hro := HG.out
      have HN0 := Lib.hid (row_ne HG.out HR.out.own (by decide))
      obtain ⟨u0, u1, u2, u3, u4, u5, u6, u7, u8, u9, u10, u11, u12, u13⟩ := conf_cells hro
      clear u0 u1 u2 u3 u4 u5 u6 u7 u8 u9 u12 u13 hro
      have d1 := HBW.out (c 10); have d2 := HBW.out (c 11); have d3 := HBW.out (c 13)
      obtain ⟨n12, hn12, hn12l⟩ := HU.out
      go_upto_region 8 with (at_builtin; refine wpB_put rfl _ _ rfl rfl (HR.out.keep ((Below.refl _ _).alloc (Nat.le_refl _) (.cells #[.int .u8 (c 10 % 256), .int .u8 (c 11 % 256)] 5))) ⟨wr.heap.size, 0, none⟩ 2 [c 10 % 256, c 11 % 256] rfl (lies_litB wr 5 rfl) (by rw [List.length_append]; show L.length + (putOf c 8).length + 2 ≤ _; omega) ?_)
      intro v2 w2 hP hgr
      have HR2 := Lib.hid hP
      have hro2 := (HG.out.alloc (.cells #[.int .u8 (c 10 % 256), .int .u8 (c 11 % 256)] 5)).grown hgr HN0.out
      have HG2 := Lib.hid hro2
      obtain ⟨u0, u1, u2, u3, u4, u5, u6, u7, u8, u9, a10, a11, a12, a13⟩ := conf_cells hro2
      clear hP hgr hro2 u0 u1 u2 u3 u4 u5 u6 u7 u8 u9 a10 a11 a13 u10 u11 HR
      have HM2 : Hid ((L ++ (putOf c 8 ++ [c 10 % 256, c 11 % 256])).length ≤ 90000000) := Lib.hid (by rw [List.length_append, List.length_append]; show L.length + ((putOf c 8).length + 2) ≤ _; omega)
      have CN := Lib.hid (sNumber_any B v2 (L ++ (putOf c 8 ++ [c 10 % 256, c 11 % 256])) n12 hn12l 3 (by omega) HM2.out w2 HR2.out.own HR2.out.le)
      have HN2 := Lib.hid (row_ne HG2.out HR2.out.own (by decide))
      go_upto_region 9 with (go_at_call 53; refine CN.out.mono ?_; rintro e w3 ⟨v3, rfl, hP⟩; have HR3 := Lib.hid (HR2.out.trans hP); have HG3 := Lib.hid (HG2.out.only hP.on HN2.out); clear hP)
      have hro3 := HG3.out
      obtain ⟨u0, u1, u2, u3, u4, u5, u6, u7, u8, u9, u10, u11, u12, u13⟩ := conf_cells hro3
      clear u0 u1 u2 u3 u4 u5 u6 u7 u8 u9 u10 u11 u12 hro3 a12
      go_wp2_with (at_builtin; refine wpB_put rfl _ _ rfl rfl (HR3.out.keep ((Below.refl _ _).alloc (Nat.le_refl _) (.cells #[.int .u8 (c 13 % 256)] 5))) ⟨w3.heap.size, 0, none⟩ 1 [c 13 % 256] rfl (lies_litB w3 5 rfl) (by rw [List.length_append, numB_len]; have := HM2.out; show (L ++ (putOf c 8 ++ [c 10 % 256, c 11 % 256])).length + 3 + 1 ≤ _; omega) ?_)
      intro v4 w4 hP _
      have HR4 := Lib.hid hP
      clear hP
      go_wp2_with fail
      go_ret
      refine ⟨_, rfl, ?_⟩
      rw [HHD.out, hn12]
      have := HR4.out
      simp only [List.append_assoc] at this ⊢
      exact this
end Go.Proofs.YtdbankogamolcaaDoor
namespace Go.Proofs.YtdbankogamolcaaDoor
set_option linter.unusedSimpArgs false
set_option linter.unusedVariables false
set_option linter.unusedSimpArgs false
open Go.ChangeShapes Go.WideShapes Go.ChangeAt Go.RowKit

@[reducible] def nilB : Value := .slice none 0 0
theorem below_of_only {w w' : World} (h : Only (ownF nilB) w w') : Below w.heap.size w w' := ⟨h.1.os, h.1.tape, h.1.output, h.1.size, fun i hi => h.2 i hi fun e => by cases e⟩
/-- Where the writing of a script stands. -/
structure PuR (w : World) (g : Nat) (f : Nat → Value) (s : Scr) (M : List Int) (v : Value) (W : World) : Prop where
  p : PutB w g nilB M v W
  row : Row W g 29 23 f
  scr : ScrIs W f s
section
variable {w W W' : World} {g : Nat} {f : Nat → Value} {s : Scr} {M N : List Int} {v v' : Value}
theorem PuR.keep (h : PuR w g f s M v W) (hb : Below W.heap.size W W') : PuR w g f s M v W' := ⟨h.p.keep hb, h.row.keep hb, h.scr.keep hb⟩
theorem PuR.at_ (h : PuR w g f s M v W) : ScrAt g f s W := ⟨h.row, h.scr⟩
theorem PuR.bel (h : PuR w g f s M v W) : Below w.heap.size w W := below_of_only h.p.on
theorem PuR.ne (h : PuR w g f s M v W) : v.ownBlock ≠ some g := row_ne h.row h.p.own (by decide)
theorem PuR.next (hs : ScrIs w f s) (h : PuR w g f s M v W) (k : PutB W g v N v' W') : PuR w g f s N v' W' := by
  have hp := h.p.trans k
  exact ⟨hp, h.row.only k.on h.ne, hs.keep (below_of_only hp.on)⟩
theorem PuR.app (hs : ScrIs w f s) (h : PuR w g f s M v W) {o : Obj} (hp : PutB w g nilB N v' W') (hg : (W.alloc o).grownBy W' v.ownBlock) : PuR w g f s N v' W' :=
  ⟨hp, (h.row.alloc o).grown hg h.ne, hs.keep (below_of_only hp.on)⟩
end
set_option maxRecDepth 100000 in
set_option maxHeartbeats 8000000 in
theorem sPut_any (f : Nat → Value) (s : Scr) (hl : LimS s) (w : World) (hs : ScrIs w f s) (he : EnvS w) :
    Calls Tryd.prog 14 #[.agg (rowOf 23 f)] w fun e w' => ∃ v u, e = .returned (.tuple #[v, u]) ∧ PutIs w' v u s ∧ Below w.heap.size w w' := by
  have HT := Lib.hid (scr_new hs)
  have HS0 := Lib.hid hs
  have hf1 := fold14I s.c
  have hal : wrap64 (s.c 0 - 1) = allL s := by unfold allL; rw [IntKind.wrap_i64]; unfold wrap64; omega
  have hab : -9223372036854775808 ≤ allL s ∧ allL s ≤ 9223372036854775807 := by unfold allL; rw [IntKind.wrap_i64]; omega
  have CR := Lib.hid (fun W hW hE => sRight_any f s (allL s) hab hl W hW hE)
  have HEN := Lib.hid he
  clear hs he hab
  go_enter Tryd.func14, Tryd.ntmps14
  go_upto_region 1 with fail
  generalize hW : World.alloc _ _ = W
  have HR := Lib.hid (show RgtR w.heap.size f s w W from ⟨(HT.out W hW).1, (HT.out W hW).2⟩)
  have HE0 := Lib.hid (HEN.out.below (HT.out W hW).2)
  clear hW HT HEN
  have c0 : W.cell? ⟨w.heap.size, 0, none⟩ = some (.int .i64 (s.c 0)) := by rw [HR.out.at_.row.cell (i := 0) (by omega), HR.out.at_.scr.conf 0 (by omega)]
  generalize hg : w.heap.size = g at *
  have HG := Lib.hid hg; clear hg
  by_cases h0 : rightN s (allL s) = 0
  · rw [h0] at CR
    have HZ := Lib.hid h0
    obtain ⟨hm, -, -⟩ := right_may h0
    have hbd := (may_bounds hm).2.1
    have HEB := Lib.hid (right_ents h0)
    obtain ⟨n, hn⟩ : ∃ n : Nat, s.c 1 = n := ⟨(s.c 1).toNat, by omega⟩
    have hn8 : n ≤ 8 := by omega
    have HNT : Hid ((s.c 1).toNat = n) := Lib.hid (by rw [hn]; rfl)
    clear h0 hm hbd
    go_upto_region 4 with (first | (refine wpList_load_row rfl 29 _ rfl g rfl 29 (rowOf 23 f) (0, 0) _ HR.out.at_.row Tryd.underlying29 rfl (by kernel_rfl) ?_) | (go_at_call 9; refine (CR.out _ HR.out.at_.scr HE0.out).mono ?_; rintro e w2 ⟨v, rfl, he, hb⟩; obtain rfl := errOf_zero he; have HR := Lib.hid (HR.out.keep hb); clear he hb))
    have HB0 : Hid (PutB w g nilB [] nilB w2) := Lib.hid ⟨World.ownsRow_nil _ _ _ _, only_below (by rw [HG.out]; exact HR.out.bel) _, .inl rfl, by have := HR.out.at_.row.lt; omega⟩
    have CC := Lib.hid (sConf_any g nilB [] s.c (Nat.zero_le _) w2 HB0.out.own HB0.out.le)
    go_upto_region 5 with (first | (refine wpList_load_mid rfl 24 _ rfl g 0 rfl ((List.range 14).map (ints s.c)) _ HR.out.at_.confR Tryd.underlying24 rfl (by kernel_rfl) ?_) | (go_at_call 29; refine CC.out.mono ?_; rintro e w3 ⟨v3, rfl, hP⟩; have HP := Lib.hid (PuR.next HS0.out (PuR.mk HB0.out HR.out.at_.row HR.out.at_.scr) hP); clear hP))
    have c1 : w3.cell? ⟨g, 1, none⟩ = some (.int .i64 n) := by rw [HP.out.row.cell (i := 1) (by omega), HP.out.scr.conf 1 (by omega), hn]
    clear c0 CC HB0 HE0 CR hal hn
    have HP0 : Hid (PuR w g f s (putPs s 0) v3 w3) := HP
    have HXT : Hid (∀ t, putPs s (t + 1) = putCs (s.p t) (putPs s t) (s.p t).length) := Lib.hid fun _ => rfl
    have HXC : Hid (∀ L M k, putCs L M (k + 1) = putCs L M k ++ putC (clN L k)) := Lib.hid fun _ _ _ => rfl
    have HX0 : Hid (∀ (L : List Cl) M, putCs L M 0 = M ++ [(L.length : Int) % 256]) := Lib.hid fun _ _ => rfl
    have HLT : Hid (∀ t, t ≤ 8 → (putPs s t).length ≤ 16 + 36000 * t) := Lib.hid fun t ht => putPs_len hl.pl t ht
    have HLC : Hid (∀ (L : List Cl) M k, (putCs L M k).length = M.length + 1 + 35 * k) := Lib.hid fun L M k => putCs_len L M k
    have HPLE := Lib.hid hl.pl
    have HCL := Lib.hid (fun t ht k hk => okC_of (hl.cl t ht k hk))
    have HBW := Lib.hid byte_wrap
    go_wp2_with fail
    go_loopw [5, 26] (fun b i wr => ∃ t : Nat, i = .int .i64 t ∧ t ≤ n ∧ PuR w g f s (putPs s t) b wr) (fun _ i _ => n - (intOf i).toNat)
    case atStart => exact ⟨0, rfl, Nat.zero_le _, HP0.out⟩
    case round =>
      clear HP HP0 c1
      obtain ⟨t, rfl, ht, hP⟩ := hrel
      have HP := Lib.hid hP
      clear hP
      by_cases hlt : t < n
      · have h8 : (t : Int) < 8 := by omega
        obtain ⟨A3, c3, hv3, -⟩ := HP.out.scr.prog t (by omega)
        have p3 := HP.out.row.cell (i := 14 + t) (by omega)
        rw [hv3] at p3
        have HV3 := Lib.hid hv3
        have hpl := HPLE.out t (by omega)
        have hlt1 := HLT.out t (by omega)
        have HX0t := Lib.hid (HX0.out (s.p t) (putPs s t))
        have HXCt := Lib.hid (HXC.out (s.p t) (putPs s t))
        have HLCt := Lib.hid (HLC.out (s.p t) (putPs s t))
        have HXTt := Lib.hid (HXT.out t)
        have HCLt := Lib.hid (HCL.out t (by omega))
        obtain ⟨np, hnp⟩ : ∃ n, (s.p t).length = n := ⟨_, rfl⟩
        rw [hnp] at p3 hpl HX0t HXTt HCLt
        have HNP := Lib.hid hnp
        clear hv3 hnp
        have d1 := HBW.out (np : Int)
        go_upto_region 9 with (at_builtin; refine wpB_put rfl _ _ rfl rfl (HP.out.keep ((Below.refl _ _).alloc (Nat.le_refl _) (.cells #[.int .u8 ((np : Int) % 256)] 5))).p ⟨wr.heap.size, 0, none⟩ 1 [(np : Int) % 256] rfl (lies_litB wr 5 rfl) (by show (putPs s t).length + 1 ≤ _; omega) ?_)
        intro v4 w4 hP hgr
        have HP4 : Hid (PuR w g f s (putCs (s.p t) (putPs s t) 0) v4 w4) := Lib.hid (by rw [HX0t.out]; exact PuR.app HS0.out HP.out hP hgr)
        have p4 := HP4.out.row.cell (i := 14 + t) (by omega)
        rw [HV3.out, HNP.out] at p4
        clear hP hgr HP p3 d1
        go_wp2_with fail
        go_loopw [5, 43] (fun b i wr => ∃ k : Nat, i = .int .i64 k ∧ k ≤ np ∧ PuR w g f s (putCs (s.p t) (putPs s t) k) b wr) (fun _ i _ => np - (intOf i).toNat)
        case atStart => exact ⟨0, rfl, Nat.zero_le _, HP4.out⟩
        case round =>
          clear HP4 p4
          obtain ⟨k, rfl, hk, hP⟩ := hrel
          have HP := Lib.hid hP
          clear hP
          by_cases hlt : k < np
          · obtain ⟨A5, c5, hv5, l5⟩ := HP.out.scr.prog t (by omega)
            have hA5 : A5 = A3 := by
              have := HV3.out; rw [hv5] at this; cases this; rfl
            subst hA5
            obtain ⟨b3, off3, rfl, _, x1⟩ := l5.atCl (by rw [HNP.out]; omega)
            obtain ⟨q0, q1, q2, q3, q4, q5, q6⟩ := cl_cells (x1 k (by rw [HNP.out]; omega))
            change wr.cell? ⟨b3, off3 + k * 7, none⟩ = some (.int .i64 (clN (s.p t) k).op) at q0
            change wr.cell? ⟨b3, off3 + k * 7 + 1, none⟩ = some (.int .i64 (clN (s.p t) k).l) at q1
            change wr.cell? ⟨b3, off3 + k * 7 + 2, none⟩ = some (.int .i64 (clN (s.p t) k).key) at q2
            change wr.cell? ⟨b3, off3 + k * 7 + 3, none⟩ = some (.int .u64 (clN (s.p t) k).pa) at q3
            change wr.cell? ⟨b3, off3 + k * 7 + 4, none⟩ = some (.int .u64 (clN (s.p t) k).pb) at q4
            change wr.cell? ⟨b3, off3 + k * 7 + 5, none⟩ = some (.int .u64 (clN (s.p t) k).hd) at q5
            change wr.cell? ⟨b3, off3 + k * 7 + 6, none⟩ = some (.int .i64 (clN (s.p t) k).r) at q6
            have hin : (k : Int) < np := by omega
            have HXk := Lib.hid (HXCt.out k)
            have hcl := HCLt.out k hlt
            have hlc := HLCt.out k
            clear x1 l5 hv5
            generalize clN (s.p t) k = x at *
            go_upto_region 12 with fail
            generalize hW2 : World.alloc _ _ = W2
            have hro : Row W2 wr.heap.size 61 7 (cF x) := by rw [← hW2]; exact Row.new wr _ _ _ _ rfl
            have HP2 := Lib.hid (HP.out.keep (show Below wr.heap.size wr W2 by rw [← hW2]; exact (Below.refl _ _).alloc (Nat.le_refl _) _))
            clear hW2 HP q0 q1 q2 q3 q4 q5 q6
            generalize wr.heap.size = bb at *
            have CC := Lib.hid (sCall_any g u5 (putCs (s.p t) (putPs s t) k) x hcl (by omega) W2 HP2.out.p.own HP2.out.p.le)
            go_wp2_with (first | (refine wpList_load_row rfl 61 _ rfl bb rfl 61 (rowOf 7 (cF x)) (0, 0) _ hro Tryd.underlying61 rfl (by kernel_rfl) ?_) | (go_at_call 30; refine CC.out.mono ?_; rintro e w5 ⟨v5, rfl, hP⟩; have HP5 := Lib.hid (PuR.next HS0.out HP2.out hP); clear hP))
            go_roundw
            case rel => exact ⟨k + 1, by go_num, by omega, by rw [HXk.out]; exact HP5.out⟩
            case measure => simp [intOf]; omega
          · obtain rfl : k = np := by omega
            go_wp2_with fail
            go_roundw
            case rel => exact ⟨t + 1, by go_num, by omega, by rw [HXTt.out]; exact HP.out⟩
            case measure => simp [intOf]; omega
      · obtain rfl : t = n := by omega
        have HE0 : Hid (PuR w g f s (putEs s 0) u5 wr) := Lib.hid (by
          show PuR w g f s (putPs s (s.c 1).toNat) u5 wr
          rw [HNT.out]; exact HP.out)
        have HXE : Hid (∀ k, putEs s (k + 1) = putEs s k ++ [((enN s.e k).th + 8 * (enN s.e k).wh) % 256]) := Lib.hid fun _ => rfl
        have HLE : Hid (∀ k, (putEs s k).length ≤ 300000 + k) := Lib.hid fun k => putEs_len hl.pl (by rw [HNT.out]; exact hn8) k
        have HFIN : Hid (putS18 s = putEs s s.e.length) := Lib.hid rfl
        have hel := hl.el
        obtain ⟨A4, c4, hv4, -⟩ := HP.out.scr.ents
        have p4 := HP.out.row.cell (i := 22) (by omega)
        rw [hv4] at p4
        have HV4 := Lib.hid hv4
        obtain ⟨ne, hne⟩ : ∃ n, s.e.length = n := ⟨_, rfl⟩
        rw [hne] at p4 HEB HFIN hel
        have HNE := Lib.hid hne
        clear HP HXT HXC HX0 HLT HLC HPLE HCL HBW hv4 hne
        go_wp2_with fail
        go_loopw [5, 55] (fun b i wr => ∃ k : Nat, i = .int .i64 k ∧ k ≤ ne ∧ PuR w g f s (putEs s k) b wr) (fun _ i _ => ne - (intOf i).toNat)
        case atStart => exact ⟨0, rfl, Nat.zero_le _, HE0.out⟩
        case round =>
          clear HE0 p4
          obtain ⟨k, rfl, hk, hP⟩ := hrel
          have HP := Lib.hid hP
          clear hP
          by_cases hlt : k < ne
          · obtain ⟨A5, c5, hv5, l5⟩ := HP.out.scr.ents
            have hA5 : A5 = A4 := by
              have := HV4.out; rw [hv5] at this; cases this; rfl
            subst hA5
            obtain ⟨b1, off1, rfl, q0, q1⟩ := l5.atEnt2 (k := k) (by rw [HNE.out]; exact hlt)
            obtain ⟨e0, e1, e2, e3⟩ := HEB.out k hlt
            obtain ⟨th, hth⟩ : ∃ n : Nat, (enN s.e k).th = n := ⟨(enN s.e k).th.toNat, by omega⟩
            obtain ⟨wh, hwh⟩ : ∃ n : Nat, (enN s.e k).wh = n := ⟨(enN s.e k).wh.toNat, by omega⟩
            have HXk := Lib.hid (HXE.out k)
            rw [hth, hwh] at HXk
            rw [hth] at q0
            rw [hwh] at q1
            have CB := Lib.hid (fun W => sEntry_any th wh (by omega) (by omega) W)
            have hin : (k : Int) < ne := by omega
            have hlk := HLE.out k
            clear l5 hv5 hth hwh e0 e1 e2 e3
            go_upto_region 18 with fail
            generalize hW2 : World.alloc _ _ = W2
            have hx : Cells W2 wr.heap.size 51 [.int .i64 th, .int .i64 wh] := by rw [← hW2]; exact Cells.new wr #[.int .i64 th, .int .i64 wh] 51
            have HP2 := Lib.hid (HP.out.keep (show Below wr.heap.size wr W2 by rw [← hW2]; exact (Below.refl _ _).alloc (Nat.le_refl _) _))
            have p5 := hx.cell0
            have p6 := hx.cell1
            clear hW2 HP q0 q1 hx
            generalize wr.heap.size = bb at *
            generalize ((th : Int) + 8 * wh) % 256 = y at *
            go_wp2_with (first | (go_at_call 31; refine (CB.out _).mono ?_; rintro e w5 ⟨rfl, hb⟩; have HP5 := Lib.hid (HP2.out.keep hb); clear hb) | (at_builtin; refine wpB_put rfl _ _ rfl rfl (HP5.out.keep ((Below.refl _ _).alloc (Nat.le_refl _) (.cells #[.int .u8 y] 5))).p ⟨w5.heap.size, 0, none⟩ 1 [y] rfl (lies_litB w5 5 rfl) (by show (putEs s k).length + 1 ≤ _; omega) ?_))
            intro v6 w6 hP hgr
            have HP6 := Lib.hid (PuR.app HS0.out HP5.out hP hgr)
            clear hP hgr
            go_wp2_with fail
            go_roundw
            case rel => exact ⟨k + 1, by go_num, by omega, by rw [HXk.out]; exact HP6.out⟩
            case measure => simp [intOf]; omega
          · obtain rfl : k = ne := by omega
            obtain ⟨A9, c9, hv9, -, -, -, l9, -⟩ := lnIs_of_own HP.out.p.own
            go_wp2_with fail
            go_ret2
            refine ⟨_, _, rfl, ⟨?_, fun _ => ⟨A9, c9, ?_, ?_⟩, fun h => absurd HZ.out h⟩, HP.out.bel⟩
            · rw [HZ.out]; exact errOf_no _
            · rw [HFIN.out]; exact hv9
            · rw [HFIN.out]; exact l9
  · have HNZ := Lib.hid h0
    go_wp2_with (first | (refine wpList_load_row rfl 29 _ rfl g rfl 29 (rowOf 23 f) (0, 0) _ HR.out.at_.row Tryd.underlying29 rfl (by kernel_rfl) ?_) | (go_at_call 9; refine (CR.out _ HR.out.at_.scr HE0.out).mono ?_; rintro e w2 ⟨v, rfl, he, hb⟩; obtain ⟨U, x, rfl, hq⟩ := errOf_some he HNZ.out; have HE := Lib.hid he; have HR := Lib.hid (HR.out.keep hb); clear he hb))
    go_ret2
    exact ⟨_, _, rfl, ⟨HE.out, fun h => absurd h HNZ.out, fun _ => ⟨none, 0, rfl⟩⟩, by rw [HG.out]; exact HR.out.bel⟩
end Go.Proofs.YtdbankogamolcaaDoor
namespace Go.Proofs.YtdbankogamolcaaDoor
set_option linter.unusedSimpArgs false
set_option linter.unusedVariables false
open Go.ChangeShapes Go.WideShapes Go.ChangeAt Go.RowKit
set_option linter.unusedSimpArgs false

set_option maxHeartbeats 4000000 in
theorem eqCalls_any (A B : Option Addr) (c d : Nat) (L M : List Cl) (hL : L.length ≤ 9223372036854775807) (hM : M.length ≤ 9223372036854775807) (w : World) (ha : LiesC w A (flatF clF L)) (hb : LiesC w B (flatF clF M)) :
    Calls Tryd.prog 32 #[.slice A L.length c, .slice B M.length d] w fun e w' => e = .returned (.bool (decide (L = M))) ∧ Drew w w' := by
  have HA := Lib.hid ha; have HB := Lib.hid hb
  clear ha hb
  generalize hn : L.length = n at *
  generalize hm : M.length = m at *
  by_cases hnm : n = m
  · subst hnm
    go_enter Tryd.func32, Tryd.ntmps32
    go_wp2_with fail
    go_loopw [13] (fun i wr => ∃ k : Nat, i = .int .i64 k ∧ k ≤ n ∧ Drew w wr ∧ ∀ i, i < k → clN L i = clN M i) (fun i _ => n - (intOf i).toNat)
    case atStart => exact ⟨0, rfl, Nat.zero_le _, Drew.refl _, fun i hi => by omega⟩
    case round =>
      obtain ⟨k, rfl, hk, hd, he⟩ := hrel
      by_cases hlt : k < n
      · obtain ⟨b1, off1, rfl, _, x1⟩ := (HA.out.keep (hd.below _)).atCl (by omega)
        obtain ⟨b2, off2, rfl, _, x2⟩ := (HB.out.keep (hd.below _)).atCl (by omega)
        obtain ⟨p0, p1, p2, p3, p4, p5, p6⟩ := cl_cells (x1 k (by omega))
        obtain ⟨q0, q1, q2, q3, q4, q5, q6⟩ := cl_cells (x2 k (by omega))
        have HQ : ∀ W, (binOp .neq 61 (.agg #[.int .i64 (clN L k).op, .int .i64 (clN L k).l, .int .i64 (clN L k).key, .int .u64 (clN L k).pa, .int .u64 (clN L k).pb, .int .u64 (clN L k).hd, .int .i64 (clN L k).r]) (.agg #[.int .i64 (clN M k).op, .int .i64 (clN M k).l, .int .i64 (clN M k).key, .int .u64 (clN M k).pa, .int .u64 (clN M k).pb, .int .u64 (clN M k).hd, .int .i64 (clN M k).r])).run Tryd.prog W = .ok (.bool (!decide (clN L k = clN M k))) W := fun W => neq_cl W (clN L k) (clN M k)
        have HD := Lib.hid (hd.more 1)
        have HE := Lib.hid he
        clear x1 x2 hd he
        change wr.cell? ⟨b1, off1 + k * 7, none⟩ = some (.int .i64 (clN L k).op) at p0
        change wr.cell? ⟨b1, off1 + k * 7 + 1, none⟩ = some (.int .i64 (clN L k).l) at p1
        change wr.cell? ⟨b1, off1 + k * 7 + 2, none⟩ = some (.int .i64 (clN L k).key) at p2
        change wr.cell? ⟨b1, off1 + k * 7 + 3, none⟩ = some (.int .u64 (clN L k).pa) at p3
        change wr.cell? ⟨b1, off1 + k * 7 + 4, none⟩ = some (.int .u64 (clN L k).pb) at p4
        change wr.cell? ⟨b1, off1 + k * 7 + 5, none⟩ = some (.int .u64 (clN L k).hd) at p5
        change wr.cell? ⟨b1, off1 + k * 7 + 6, none⟩ = some (.int .i64 (clN L k).r) at p6
        change wr.cell? ⟨b2, off2 + k * 7, none⟩ = some (.int .i64 (clN M k).op) at q0
        change wr.cell? ⟨b2, off2 + k * 7 + 1, none⟩ = some (.int .i64 (clN M k).l) at q1
        change wr.cell? ⟨b2, off2 + k * 7 + 2, none⟩ = some (.int .i64 (clN M k).key) at q2
        change wr.cell? ⟨b2, off2 + k * 7 + 3, none⟩ = some (.int .u64 (clN M k).pa) at q3
        change wr.cell? ⟨b2, off2 + k * 7 + 4, none⟩ = some (.int .u64 (clN M k).pb) at q4
        change wr.cell? ⟨b2, off2 + k * 7 + 5, none⟩ = some (.int .u64 (clN M k).hd) at q5
        change wr.cell? ⟨b2, off2 + k * 7 + 6, none⟩ = some (.int .i64 (clN M k).r) at q6
        cases hs : decide (clN L k = clN M k)
        · have HS := Lib.hid (show decide (L = M) = false from eqF_ne hs)
          rw [hs] at HQ; clear hs
          generalize clN L k = y1 at *
          generalize clN M k = y2 at *
          go_upto_region 6 with fail
          go_region
          go_wp2_with fail
          go_ret
          exact ⟨by rw [HS.out]; rfl, HD.out⟩
        · have HS : Hid (∀ i, i < k + 1 → clN L i = clN M i) := Lib.hid fun i hi => by
            rcases Nat.lt_or_ge i k with h | h
            · exact HE.out i h
            · obtain rfl : i = k := by omega
              exact of_decide_eq_true hs
          rw [hs] at HQ; clear hs
          generalize clN L k = y1 at *
          generalize clN M k = y2 at *
          go_upto_region 6 with fail
          go_region
          go_wp2_with fail
          go_roundw
          case rel => exact ⟨k + 1, by go_num, by omega, HD.out, HS.out⟩
          case measure => simp [intOf]; omega
      · obtain rfl : k = n := by omega
        have HD := Lib.hid hd; clear hd
        have HE := Lib.hid he; clear he
        go_wp2_with fail
        go_ret
        exact ⟨by rw [eqF_eq (by omega) (fun i hi => HE.out i (by omega))]; rfl, HD.out⟩
  · go_enter Tryd.func32, Tryd.ntmps32
    go_wp2_with fail
    all_goals first
      | (exfalso; omega)
      | (go_ret; exact ⟨by rw [eqF_len (by omega)]; rfl, Drew.refl _⟩)
set_option maxHeartbeats 4000000 in
theorem eqEnts_any (A B : Option Addr) (c d : Nat) (L M : List Ent) (hL : L.length ≤ 9223372036854775807) (hM : M.length ≤ 9223372036854775807) (w : World) (ha : LiesC w A (flatF entF L)) (hb : LiesC w B (flatF entF M)) :
    Calls Tryd.prog 33 #[.slice A L.length c, .slice B M.length d] w fun e w' => e = .returned (.bool (decide (L = M))) ∧ Drew w w' := by
  have HA := Lib.hid ha; have HB := Lib.hid hb
  clear ha hb
  generalize hn : L.length = n at *
  generalize hm : M.length = m at *
  by_cases hnm : n = m
  · subst hnm
    go_enter Tryd.func33, Tryd.ntmps33
    go_wp2_with fail
    go_loopw [13] (fun i wr => ∃ k : Nat, i = .int .i64 k ∧ k ≤ n ∧ Drew w wr ∧ ∀ i, i < k → enN L i = enN M i) (fun i _ => n - (intOf i).toNat)
    case atStart => exact ⟨0, rfl, Nat.zero_le _, Drew.refl _, fun i hi => by omega⟩
    case round =>
      obtain ⟨k, rfl, hk, hd, he⟩ := hrel
      by_cases hlt : k < n
      · obtain ⟨b1, off1, rfl, p0, p1⟩ := (HA.out.keep (hd.below _)).atEnt2 (k := k) (by omega)
        obtain ⟨b2, off2, rfl, q0, q1⟩ := (HB.out.keep (hd.below _)).atEnt2 (k := k) (by omega)
        have HQ := fun W => neq_ent (enN L k) (enN M k) W
        have HD := Lib.hid (hd.more 1)
        have HE := Lib.hid he
        clear hd he
        cases hs : decide (enN L k = enN M k)
        · have HS := Lib.hid (show decide (L = M) = false from eqF_ne hs)
          rw [hs] at HQ; clear hs
          generalize enN L k = y1 at *
          generalize enN M k = y2 at *
          go_upto_region 6 with fail
          go_region
          go_wp2_with fail
          go_ret
          exact ⟨by rw [HS.out]; rfl, HD.out⟩
        · have HS : Hid (∀ i, i < k + 1 → enN L i = enN M i) := Lib.hid fun i hi => by
            rcases Nat.lt_or_ge i k with h | h
            · exact HE.out i h
            · obtain rfl : i = k := by omega
              exact of_decide_eq_true hs
          rw [hs] at HQ; clear hs
          generalize enN L k = y1 at *
          generalize enN M k = y2 at *
          go_upto_region 6 with fail
          go_region
          go_wp2_with fail
          go_roundw
          case rel => exact ⟨k + 1, by go_num, by omega, HD.out, HS.out⟩
          case measure => simp [intOf]; omega
      · obtain rfl : k = n := by omega
        have HD := Lib.hid hd; clear hd
        have HE := Lib.hid he; clear he
        go_wp2_with fail
        go_ret
        exact ⟨by rw [eqF_eq (by omega) (fun i hi => HE.out i (by omega))]; rfl, HD.out⟩
  · go_enter Tryd.func33, Tryd.ntmps33
    go_wp2_with fail
    all_goals first
      | (exfalso; omega)
      | (go_ret; exact ⟨by rw [eqF_len (by omega)]; rfl, Drew.refl _⟩)
theorem eql_conf2 (c d : Nat → Int) (w : World) : (binOp .eql 24 (.agg (rowOf 14 (ints c))) (.agg (rowOf 14 (ints d)))).run Tryd.prog w = .ok (.bool (eqI 14 c d)) w := by
  have hA : (Op.equalIn 9999 22 (.agg (rowOf 8 (ints fun i => c (2 + i)))) (.agg (rowOf 8 (ints fun i => d (2 + i))))).run Tryd.prog w = .ok (eqI 8 (fun i => c (2 + i)) (fun i => d (2 + i))) w := by
    rw [run_equalIn_ints w 9997 _ _ 8 Tryd.underlying22 Tryd.underlying3 (fun _ => by kernel_rfl)]
  have hI : ∀ z y : Int, (Op.equalIn 9999 3 (.int .i64 z) (.int .i64 y)).run Tryd.prog w = .ok (z == y) w := fun z y => by
    rw [run_equalIn_int w 9998 _ .i64 .i64 z y Tryd.underlying3]
  have e8 : ∀ c : Nat → Int, (rowOf 14 (ints c)).extract 2 10 = rowOf 8 (ints fun i => c (2 + i)) := fun _ => rfl
  have p1 : ∀ (c : Nat → Int) i, i < 14 → (part 3 (rowOf 14 (ints c)) i).run Tryd.prog w = .ok (.int .i64 (c i)) w := fun c i hi => by
    have := rowOf_get (ints c) hi
    simp [part, isAgg, run_underlying Tryd.underlying3, this, ints]
  have p8 : ∀ c : Nat → Int, (part 22 (rowOf 14 (ints c)) 2).run Tryd.prog w = .ok (.agg (rowOf 8 (ints fun i => c (2 + i)))) w := fun c => by
    have hs : (sizeOf 22).run Tryd.prog w = .ok 8 w := by kernel_rfl
    simp only [part, isAgg, Sem.run_bind, run_underlying Tryd.underlying22, Result.andThen_ok, Sem.run_pure, if_true, hs, e8]
  have hht : Tryd.prog.underlying 24 = some (.struct (Tryd.prog.fieldsOf 24)) := by simp only [Program.fieldsOf, Tryd.underlying24]
  have hE : eqI 14 c d = (c 0 == d 0 && (c 1 == d 1 && (eqI 8 (fun i => c (2 + i)) (fun i => d (2 + i)) && (c 10 == d 10 && (c 11 == d 11 && (c 12 == d 12 && c 13 == d 13)))))) := by
    rw [Bool.eq_iff_iff]
    simp only [Bool.and_eq_true, eqI_iff, beq_iff_eq]
    constructor
    · intro h
      exact ⟨h 0 (by omega), h 1 (by omega), fun i hi => h (2 + i) (by omega), h 10 (by omega), h 11 (by omega), h 12 (by omega), h 13 (by omega)⟩
    · rintro ⟨h0, h1, h2, h3, h4, h5, h6⟩ i hi
      rcases Nat.lt_or_ge i 2 with h | h
      · match i, h with
        | 0, _ => exact h0
        | 1, _ => exact h1
      · rcases Nat.lt_or_ge i 10 with h' | h'
        · have := h2 (i - 2) (by omega)
          rwa [show 2 + (i - 2) = i by omega] at this
        · match i, h', hi with
          | 10, _, _ => exact h3
          | 11, _, _ => exact h4
          | 12, _, _ => exact h5
          | 13, _, _ => exact h6
  rw [run_eql_struct, run_equalIn_agg w 9999 _ _ _ hht (by kernel_rfl), hE]
  simp only [Program.fieldsOf, Tryd.underlying24, Op.eqFields, Sem.run_ite, Sem.run_bind, p1 _ _ (show 0 < 14 by omega), p1 _ _ (show 1 < 14 by omega), p1 _ _ (show 10 < 14 by omega), p1 _ _ (show 11 < 14 by omega), p1 _ _ (show 12 < 14 by omega), p1 _ _ (show 13 < 14 by omega), p8, Result.andThen_ok, hI, hA]
  cases (c 0 == d 0) <;> cases (c 1 == d 1) <;> cases (eqI 8 (fun i => c (2 + i)) (fun i => d (2 + i))) <;> cases (c 10 == d 10) <;> cases (c 11 == d 11) <;> cases (c 12 == d 12) <;> cases (c 13 == d 13) <;> rfl

set_option maxRecDepth 100000 in
set_option maxHeartbeats 4000000 in
theorem sSame_gen (f h : Nat → Value) (a b : Scr) (hla : a.e.length ≤ 9223372036854775807) (hlb : b.e.length ≤ 9223372036854775807) (hpa : ∀ t, t < 8 → (a.p t).length ≤ 9223372036854775807) (hpb : ∀ t, t < 8 → (b.p t).length ≤ 9223372036854775807) (w : World) (ha : ScrIs w f a) (hb : ScrIs w h b) :
    Calls Tryd.prog 15 #[.agg (rowOf 23 f), .agg (rowOf 23 h)] w fun e w' => e = .returned (.bool (sameS a b)) ∧ Below w.heap.size w w' := by
  have HT := Lib.hid (two_scr ha hb)
  have HS : Hid (sameS a b = (eqI 14 a.c b.c && (decide (a.e = b.e) && sameP a b 8))) := Lib.hid rfl
  have HP0 : Hid ((∀ t, t < 8 → a.p t = b.p t) → sameS a b = (eqI 14 a.c b.c && decide (a.e = b.e))) := Lib.hid fun h => by
    rw [HS.out, show sameP a b 8 = true by unfold sameP; rw [List.all_eq_true]; exact fun t ht => decide_eq_true (h t (List.mem_range.1 ht)), Bool.and_true]
  have HP1 : Hid (∀ t, t < 8 → decide (a.p t = b.p t) = false → sameS a b = false) := Lib.hid fun t ht h => by
    rw [HS.out]
    cases hx : sameP a b 8 with
    | false => rw [Bool.and_false, Bool.and_false]
    | true => unfold sameP at hx; rw [List.all_eq_true] at hx; rw [hx t (List.mem_range.2 ht)] at h; cases h
  have CC := Lib.hid (fun (t : Nat) (ht : t < 8) A B c d W h1 h2 => eqCalls_any A B c d (a.p t) (b.p t) (hpa t ht) (hpb t ht) W h1 h2)
  have CE := Lib.hid (fun A B c d W h1 h2 => eqEnts_any A B c d a.e b.e hla hlb W h1 h2)
  have NQ := fun W => eql_conf2 a.c b.c W
  have hf1 := fold14I a.c
  have hf2 := fold14I b.c
  clear ha hb HS hla hlb hpa hpb
  go_enter Tryd.func15, Tryd.ntmps15
  go_upto_region 1 with fail
  generalize hW : World.alloc _ _ = W
  have HX := Lib.hid (HT.out W hW)
  clear hW HT
  generalize hg : w.heap.size = g at *
  have HG := Lib.hid hg; clear hg
  have HA0 := Lib.hid HX.out.1; have HB0 := Lib.hid HX.out.2.1
  go_wp2_with fail
  go_loopw [6] (fun i wr => ∃ t : Nat, i = .int .i64 t ∧ t ≤ 8 ∧ Drew W wr ∧ ∀ i, i < t → a.p i = b.p i) (fun i _ => 8 - (intOf i).toNat)
  case atStart => exact ⟨0, rfl, Nat.zero_le _, Drew.refl _, fun i hi => by omega⟩
  case round =>
    obtain ⟨t, rfl, ht, hd, he⟩ := hrel
    by_cases hlt : t < 8
    · have h8 : (t : Int) < 8 := by omega
      obtain ⟨A3, c3, p3, l3⟩ := (HA0.out.keep (hd.below _)).progV hlt
      obtain ⟨A4, c4, p4, l4⟩ := (HB0.out.keep (hd.below _)).progV hlt
      have HCt := CC.out t hlt A3 A4 c3 c4
      have HP1t := Lib.hid (HP1.out t hlt)
      have HEt : Hid (decide (a.p t = b.p t) = true → ∀ i, i < t + 1 → a.p i = b.p i) := Lib.hid fun h i hi => by
        rcases Nat.lt_or_ge i t with h2 | h2
        · exact he i h2
        · obtain rfl : i = t := by omega
          exact of_decide_eq_true h
      have HL3 := Lib.hid l3; have HL4 := Lib.hid l4; have HD2 := Lib.hid hd
      have HC1 := Lib.hid (fun W h1 h2 => HCt W h1 h2)
      clear l3 l4 he hd HCt
      generalize decide (a.p t = b.p t) = bt at *
      generalize (a.p t).length = n3 at *
      generalize (b.p t).length = n4 at *
      have HC2 : Hid (∀ q, Calls Tryd.prog 32 #[.slice A3 n3 c3, .slice A4 n4 c4] (wr.drewN q) fun e w' => e = .returned (.bool bt) ∧ ∃ m, w' = (wr.drewN q).drewN m) := Lib.hid fun q => HC1.out _ (HL3.out.keep (Drew.below ⟨q, rfl⟩ _)) (HL4.out.keep (Drew.below ⟨q, rfl⟩ _))
      clear HC1
      cases bt
      · have HF := Lib.hid (HP1t.out rfl)
        go_upto_region 4 with fail
        go_quiet ((go_at_call 32; exact Calls.quiet_of (HC2.out _)))
        go_wp2_with fail
        go_ret
        exact ⟨by rw [HF.out]; rfl, by rw [HG.out]; exact HX.out.2.2.trans ((HD2.out.more _).below _)⟩
      · have HE5 := Lib.hid (HEt.out rfl)
        go_upto_region 4 with fail
        go_quiet ((go_at_call 32; exact Calls.quiet_of (HC2.out _)))
        go_wp2_with fail
        go_roundw
        case rel => exact ⟨t + 1, by go_num, by omega, HD2.out.more _, HE5.out⟩
        case measure => simp [intOf]; omega
    · obtain rfl : t = 8 := by omega
      have HF := Lib.hid (HP0.out he)
      have HD2 := Lib.hid hd
      have HA := Lib.hid (HA0.out.keep (hd.below _))
      have HB := Lib.hid (HB0.out.keep (hd.below _))
      obtain ⟨A1, c1, pa, la⟩ := HA.out.entsV
      obtain ⟨A2, c2, pb, lb⟩ := HB.out.entsV
      have HLA := Lib.hid la; have HLB := Lib.hid lb
      clear hd he la lb HP1 CC
      rw [show ((8 : Nat) : Int) = 8 from rfl]
      have CE2 := Lib.hid (CE.out A1 A2 c1 c2 wr HLA.out HLB.out)
      clear CE
      generalize a.e.length = n at *
      generalize b.e.length = m at *
      generalize decide (a.e = b.e) = be at *
      generalize eqI 14 a.c b.c = ec at *
      cases ec
      · go_wp2_with (first | (refine wpList_load_mid rfl 24 _ rfl g 0 rfl ((List.range 14).map (ints a.c)) _ HA.out.confR Tryd.underlying24 rfl (by kernel_rfl) ?_) | (refine wpList_load_mid rfl 24 _ rfl (g + 1) 0 rfl ((List.range 14).map (ints b.c)) _ HB.out.confR Tryd.underlying24 rfl (by kernel_rfl) ?_))
        go_ret
        exact ⟨by rw [HF.out]; rfl, by rw [HG.out]; exact HX.out.2.2.trans (HD2.out.below _)⟩
      · go_wp2_with (first | (refine wpList_load_mid rfl 24 _ rfl g 0 rfl ((List.range 14).map (ints a.c)) _ HA.out.confR Tryd.underlying24 rfl (by kernel_rfl) ?_) | (refine wpList_load_mid rfl 24 _ rfl (g + 1) 0 rfl ((List.range 14).map (ints b.c)) _ HB.out.confR Tryd.underlying24 rfl (by kernel_rfl) ?_) | (go_at_call 33; refine CE2.out.mono ?_; rintro e w3 ⟨rfl, hd3⟩; have HD3 := Lib.hid hd3; clear hd3))
        go_ret
        exact ⟨by rw [HF.out]; rfl, by rw [HG.out]; exact HX.out.2.2.trans ((HD2.out.below _).trans (HD3.out.below _))⟩
end Go.Proofs.YtdbankogamolcaaDoor
namespace Go.Proofs.YtdbankogamolcaaDoor
set_option linter.unusedSimpArgs false
set_option linter.unusedVariables false
open Go.ChangeShapes Go.WideShapes Go.ChangeAt Go.RowKit

theorem sSame_any (f h : Nat → Value) (a b : Scr) (hla : LimS a) (hlb : LimS b) (w : World) (ha : ScrIs w f a) (hb : ScrIs w h b) :
    Calls Tryd.prog 15 #[.agg (rowOf 23 f), .agg (rowOf 23 h)] w fun e w' => e = .returned (.bool (sameS a b)) ∧ Below w.heap.size w w' :=
  sSame_gen f h a b (by have := hla.el; omega) (by have := hlb.el; omega) (fun t ht => by have := hla.pl t ht; omega) (fun t ht => by have := hlb.pl t ht; omega) w ha hb
end Go.Proofs.YtdbankogamolcaaDoor

namespace Go.Proofs.YtdbankogamolcaaDoor
set_option linter.unusedSimpArgs false
set_option linter.unusedVariables false
open Go.ChangeShapes Go.WideShapes Go.ChangeAt Go.RowKit

/-- The chapter's example. -/
def livesC : Nat → Int := fun i => [1, 1, 0, 0, 0, 0, 0, 0, 0, 0, 2, 1, 1, 0].getD i 0
def livesS : Scr := ⟨livesC, fun _ => [], [⟨0, 0⟩]⟩
def livesF (v : Value) : Nat → Value := fun i => [.int .i64 1, .int .i64 1, .int .i64 0, .int .i64 0, .int .i64 0, .int .i64 0, .int .i64 0, .int .i64 0, .int .i64 0, .int .i64 0, .int .i64 2, .int .i64 1, .int .i64 1, .int .i64 0, .slice none 0 0, .slice none 0 0, .slice none 0 0, .slice none 0 0, .slice none 0 0, .slice none 0 0, .slice none 0 0, .slice none 0 0, v].getD i undef
theorem lives_lim : LimS livesS where
  conf := fun i => by
    by_cases h : i < 14
    · match i, h with
      | 0, _ | 1, _ | 2, _ | 3, _ | 4, _ | 5, _ | 6, _ | 7, _ | 8, _ | 9, _ | 10, _ | 11, _ | 12, _ | 13, _ => decide
    · have : livesS.c i = 0 := by
        show List.getD _ i 0 = 0
        rw [List.getD_eq_getElem?_getD, List.getElem?_eq_none (by simp; omega)]; rfl
      rw [this]; decide
  el := by decide
  pl := fun t _ => Nat.zero_le _
  cl := fun t _ k hk => absurd hk (Nat.not_lt_zero _)
  en := fun k hk => by
    obtain rfl : k = 0 := by have : k < 1 := hk; omega
    constructor <;> (unfold I64; decide)
theorem lives_right : rightN livesS (allL livesS) = 0 := by decide
theorem lives_put : putS18 livesS = [1, 1, 0, 0, 0, 0, 0, 0, 0, 0, 2, 1, 1, 0, 0, 0, 0, 0] := by decide
theorem lives_scr (w : World) : ScrIs (w.alloc (.cells #[.int .i64 0, .int .i64 0] 51)) (livesF (.slice (some ⟨w.heap.size, 0, none⟩) 1 1)) livesS where
  conf := fun i hi => by
    match i, hi with
    | 0, _ | 1, _ | 2, _ | 3, _ | 4, _ | 5, _ | 6, _ | 7, _ | 8, _ | 9, _ | 10, _ | 11, _ | 12, _ | 13, _ => rfl
  prog := fun t ht => by
    match t, ht with
    | 0, _ | 1, _ | 2, _ | 3, _ | 4, _ | 5, _ | 6, _ | 7, _ => exact ⟨none, 0, rfl, .inl rfl⟩
  ents := ⟨some ⟨w.heap.size, 0, none⟩, 1, rfl, .inr ⟨_, 0, rfl, by simp, fun j v hj => by
    match j, hj with
    | 0, hj => rw [← Option.some.inj hj]; simp
    | 1, hj => rw [← Option.some.inj hj]; simp⟩⟩
def livesA (v : Value) : Array Value := #[.int .i64 1, .int .i64 1, .int .i64 0, .int .i64 0, .int .i64 0, .int .i64 0, .int .i64 0, .int .i64 0, .int .i64 0, .int .i64 0, .int .i64 2, .int .i64 1, .int .i64 1, .int .i64 0, .slice none 0 0, .slice none 0 0, .slice none 0 0, .slice none 0 0, .slice none 0 0, .slice none 0 0, .slice none 0 0, .slice none 0 0, v]
theorem livesA_row (v : Value) : livesA v = rowOf 23 (livesF v) := rfl
theorem lives_one (A : Option Addr) (n c : Nat) : ((livesA (.slice A n c)).all fun x => x.oneCell') = true := by simp [livesA, Value.oneCell']
theorem lives_set (w : World) (cs : Array Value) : ((w.alloc (.cells #[.int .i64 0, .int .i64 0] 51)).alloc (.cells zeroAr 29)).setRow (w.heap.size + 1) cs = (w.alloc (.cells #[.int .i64 0, .int .i64 0] 51)).alloc (.cells cs 29) := by
  have := World.setRow_alloc_new (w.alloc (.cells #[.int .i64 0, .int .i64 0] 51)) zeroAr cs 29
  rwa [World.size_alloc] at this
theorem lives_new (w : World) : ((w.alloc (.cells #[.int .i64 0, .int .i64 0] 51)).alloc (.cells zeroAr 29)).heap[w.heap.size + 1]? = some (.cells zeroAr 29) := by
  have := heap_alloc_new (w.alloc (.cells #[.int .i64 0, .int .i64 0] 51)) (.cells zeroAr 29)
  rwa [World.size_alloc] at this
set_option maxRecDepth 100000 in
theorem lives18_any (w : World) (hen : EnvS w) : Calls Tryd.prog 8 #[] w fun e w' => e = .returned (.bool true) ∧ Below w.heap.size w w' := by
  have CP := Lib.hid fun v W h hE => sPut_any (livesF v) livesS lives_lim W h hE
  have HEN := Lib.hid hen
  clear hen
  have HS := Lib.hid (lives_scr w)
  have HN := lives_new w
  go_enter Tryd.func8, Tryd.ntmps8
  go_upto_region 2 with (first
    | (refine wpList_buildTo rfl 29 _ rfl (some 7) rfl (livesA (.slice (some ⟨w.heap.size, 0, none⟩) 1 1)) (by kernel_rfl) ?_)
    | (refine wpList_store_row rfl 29 _ _ rfl (w.heap.size + 1) (livesA (.slice (some ⟨w.heap.size, 0, none⟩) 1 1)) rfl rfl 29 zeroAr HN (by kernel_rfl) rfl (lives_one _ _ _) ?_))
  rw [lives_set, livesA_row]
  generalize hv : Value.slice (some ⟨w.heap.size, 0, none⟩) 1 1 = v at *
  generalize hW1 : World.alloc w _ = W1 at *
  generalize hW : World.alloc W1 _ = W
  have hb1 : Below w.heap.size w W1 := by rw [← hW1]; exact (Below.refl _ _).alloc (Nat.le_refl _) _
  have hs1 : W1.heap.size = w.heap.size + 1 := by rw [← hW1]; simp
  obtain ⟨hx, hb⟩ := scr_new HS.out W hW
  rw [hs1] at hx
  have HX := Lib.hid hx
  have HB := Lib.hid (hb1.trans (hb.mono (by omega)))
  clear hW hb1 hs1 hb hx hW1
  go_wp2_with (refine wpList_load_row rfl 29 _ rfl (w.heap.size + 1) rfl 29 (rowOf 23 (livesF v)) (0, 0) _ HX.out.row Tryd.underlying29 rfl (by kernel_rfl) ?_)
  refine (CP.out _ _ HX.out.scr (HEN.out.below HB.out)).mono ?_
  rintro e w1 ⟨x, u, rfl, ⟨⟨er, rfl, -, -, he⟩, hp, -⟩, hb⟩
  obtain rfl := he.2 lives_right
  obtain ⟨A, c, rfl, hl⟩ := hp lives_right
  have hc := conv_bytes _ A c w1 hl
  rw [lives_put] at hc ⊢
  have hq : strOfNums [1, 1, 0, 0, 0, 0, 0, 0, 0, 0, 2, 1, 1, 0, 0, 0, 0, 0] = ⟨#[1, 1, 0, 0, 0, 0, 0, 0, 0, 0, 2, 1, 1, 0, 0, 0, 0, 0]⟩ := rfl
  rw [hq] at hc
  simp only [Errs.val, List.length_cons, List.length_nil, Nat.zero_add, Nat.reduceAdd] at hc ⊢
  clear hp hl hq
  go_wp2_with fail
  go_ret
  exact ⟨rfl, HB.out.trans (hb.mono HB.out.size)⟩
end Go.Proofs.YtdbankogamolcaaDoor
