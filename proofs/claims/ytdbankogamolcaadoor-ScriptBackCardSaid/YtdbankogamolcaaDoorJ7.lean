/- Lists of threads, as package conf and the document's answer give them. · What the other functions of package conf answer, and the document's answers of layer 4. · The document's answers of layer 8: numbers in decimal, names of codes. · What may be called, what an op is called, whether it looks, its part: package call's and the document's answers. · burnbagref18: Right, Top. -/
import Derived.Test.YtdbankogamolcaaDoorJ6
import Derived.Test.YtdbankogamolcaaDoorJ4
import Derived.OwnWalk
import Derived.Test.YtdbankogamolcaaDoorJ0
import Derived.WalkKit
import Derived.Lib.Hide
import Derived.WalkSpells
import Derived.Deep.DeepCutAuto
import Derived.Deep.WholeRow
import Derived.Laws.Cover4
import Derived.IntWalk
namespace Go.Proofs.YtdbankogamolcaaDoor
set_option linter.unusedSimpArgs false
set_option linter.unusedVariables false
open Go.ChangeShapes Go.WideShapes Go.ChangeAt Go.RowKit

/-- What is told is a slice of these numbers; nothing that was there has turned. -/
def GivesInts (w : World) (l : List Int) (e : Ending) (w' : World) : Prop := ∃ A cap, e = .returned (.slice A l.length cap) ∧ RowIs w' A l.length (fun i => .int .i64 (l.getD i 0)) ∧ Below w.heap.size w w'
theorem own_row {w : World} {base : Nat} {e : TypeId} {v : Value} {l : List Int} (h : w.ownsRow base e 1 v l.length (l.map (Value.int .i64))) : ∃ A cap, v = .slice A l.length cap ∧ RowIs w A l.length (fun i => .int .i64 (l.getD i 0)) := by
  rcases h.2 with ⟨rfl, h0⟩ | ⟨g, cap, cur, rfl, hb, hh, _⟩
  · rw [h0]
    exact ⟨none, 0, rfl, RowIs.none_ _ _ _⟩
  · refine ⟨_, cap, rfl, fun hn => ⟨g, 0, rfl, ?_, fun i hi => ?_⟩⟩
    · rcases Nat.lt_or_ge g w.heap.size with hlt | hge
      · exact hlt
      · rw [Array.getElem?_eq_none hge] at hh; cases hh
    · rw [Nat.zero_add, h.cellAt i (by omega)]
      simp [List.getD, hi]

/-- The first k threads whose number in the array is from lo to hi. -/
def thr (c : Nat → Int) (lo hi : Int) (k : Nat) : List Int := ((List.range k).filter fun t => withinB (c (2 + t)) lo hi).map Int.ofNat
theorem thr_succ (c : Nat → Int) (lo hi : Int) (k : Nat) : thr c lo hi (k + 1) = thr c lo hi k ++ if withinB (c (2 + k)) lo hi = true then [(k : Int)] else [] := by
  unfold thr
  rw [List.range_succ, List.filter_append, List.map_append]
  congr 1
  by_cases h : withinB (c (2 + k)) lo hi = true
  · rw [if_pos h]; simp [h]
  · rw [if_neg h]; simp [h]
theorem thr_len (c : Nat → Int) (lo hi : Int) (k : Nat) : (thr c lo hi k).length ≤ k := by
  unfold thr
  rw [List.length_map]
  exact Nat.le_trans (List.length_filter_le ..) (by simp)
def thrs (c : Nat → Int) (lo hi : Int) : List Int := if mayB c = true then thr c lo hi (c 1).toNat else []

theorem int_info : (Tryd.prog.info? 3).map (fun i => (i.zero, i.size, i.bytes)) = some (some (.int .i64 0), 1, 8) := by kernel_rfl

set_option maxRecDepth 100000 in
set_option maxHeartbeats 1000000 in
theorem cThreads_any (c : Nat → Int) (hc : Ok64 c) (lo hi : Int) (w : World) :
    Calls Tryd.prog 61 #[.agg (rowOf 14 (ints c)), .int .i64 lo, .int .i64 hi] w (GivesInts w (thrs c lo hi)) := by
  obtain ⟨i0, hi0, hz0, hz1, hz2⟩ := info_parts int_info
  have f14 := fold14 c
  have cM := Lib.hid (cMay_any c hc)
  have hT : Hid (thrs c lo hi = if mayB c = true then thr c lo hi (c 1).toNat else []) := Lib.hid rfl
  go_enter Tryd.func61, Tryd.ntmps61
  go_upto_region 1 with fail
  generalize hW : World.alloc _ _ = W
  have hr : Row W w.heap.size 24 14 (ints c) := by rw [← hW]; exact Row.new _ _ _ _ _ rfl
  have hB : Below w.heap.size w W := by rw [← hW]; exact (Below.refl _ _).alloc (Nat.le_refl _) _
  clear hW
  generalize hz : w.heap.size = a1 at *
  have HZ := Lib.hid hz; clear hz
  obtain ⟨u0, u1, u2, u3, u4, u5, u6, u7, u8, u9, u10, u11, u12, u13⟩ := conf_cells hr
  go_wp2_with fail
  refine (cM.out _).mono ?_; rintro e W1 ⟨rfl, hb1⟩
  have hr1 := hr.keep hb1
  have hB1 := below_on hB (Nat.le_of_eq HZ.out.symm) hb1
  clear u0 u1 u2 u3 u4 u5 u6 u7 u8 u9 u10 u11 u12 u13 f14 cM hb1 hr hB
  obtain ⟨-, u1, -⟩ := conf_cells hr1
  cases hm : mayB c
  · rw [hm] at hT
    go_wp2_with fail
    go_ret
    exact ⟨none, 0, by rw [hT.out]; rfl, by rw [hT.out]; exact RowIs.none_ _ _ _, by rw [HZ.out]; exact hB1⟩
  · obtain ⟨-, hb1, -⟩ := may_bounds hm
    rw [hm] at hT
    have hlt1 := hr1.lt
    go_wp2_with fail
    go_loopw [7, 14] (fun v t wr => ∃ k : Nat, t = .int .i64 k ∧ (k : Int) ≤ c 1 ∧ wr.ownsRow W1.heap.size 3 1 v (thr c lo hi k).length ((thr c lo hi k).map (Value.int .i64)) ∧ Below W1.heap.size W1 wr) (fun _ t _ => 8 - (intOf t).toNat)
    case atStart => exact ⟨0, rfl, by omega, World.ownsRow_nil _ _ _ _, Below.refl _ _⟩
    case round =>
      obtain ⟨k, rfl, hk, hown, hbr⟩ := hrel
      have hrr := hr1.keep hbr
      have hBr := below_on hB1 (by have := HZ.out; have := hB1.size; omega) hbr
      clear u1
      by_cases hlt : (k : Int) < c 1
      · have v1 : wr.cell? ⟨a1, 2 + k, none⟩ = some (.int .i64 (c (2 + k))) := hrr.cell (i := 2 + k) (by omega)
        have q0 : (0 : Int) ≤ (k : Int) := by omega
        have q1 : (k : Int) < 8 := by omega
        have hs := thr_succ c lo hi k
        have hl := thr_len c lo hi k
        cases hw : withinB (c (2 + k)) lo hi
        · rw [hw, if_neg (by simp), List.append_nil] at hs
          have HS := Lib.hid hs; clear hs
          have HW := Lib.hid hw
          go_wp2_with ((go_at_call 42; refine (cWithin_any _ _ _ _).mono ?_; rintro e w' ⟨rfl, rfl⟩); rw [HW.out])
          go_roundw
          case rel => exact ⟨k + 1, by go_num, by omega, by rw [HS.out]; exact hown, hbr⟩
          case measure => simp [intOf]; omega
        · rw [hw, if_pos rfl] at hs
          have HS := Lib.hid hs; clear hs
          have HW := Lib.hid hw
          go_wp2_with (first | ((go_at_call 42; refine (cWithin_any _ _ _ _).mono ?_; rintro e w' ⟨rfl, rfl⟩); rw [HW.out]) | (at_builtin; refine wpList_append_own _ rfl _ _ 85 rfl W1.heap.size 3 i0 (.int .i64 0) 1 8 Tryd.underlying85 hi0 hz0 hz1 hz2 rfl (by decide) _ _ _ rfl (hown.alloc _) ⟨wr.heap.size, 0, none⟩ 1 1 [.int .i64 (k : Int)] rfl rfl ?c1 ?c2 ?c3 ?c4 ?c5 ?_))
          case c1 =>
            intro j u hj
            match j, hj with
            | 0, hj => simp at hj; subst hj; simp [Addr.add]
          case c2 => intro u hu; simp at hu; subst hu; rfl
          case c3 => unfold maxLen; omega
          case c4 => omega
          case c5 => have := hbr.size; simp; omega
          intro v' w1 hown' hgrow _
          have hbn : Below W1.heap.size W1 w1 := (hbr.alloc hbr.size _).grown hgrow (by have := hbr.size; simp; omega) (fun g hg => (hown.lt g hg).1)
          clear hgrow hown
          go_wp2_with fail
          go_roundw
          case rel => exact ⟨k + 1, by go_num, by omega, by rw [HS.out, List.length_append, List.map_append]; exact hown', hbn⟩
          case measure => simp [intOf]; omega
      · obtain ⟨A, cap, rfl, hrow⟩ := own_row hown
        have hk1 : (c 1).toNat = k := by omega
        have hT' := hT.out
        rw [if_pos trivial, hk1] at hT'
        have HT := Lib.hid hT'; clear hT' hT hk1
        go_wp2_with fail
        go_ret
        exact ⟨A, cap, by rw [HT.out]; rfl, by rw [HT.out]; exact hrow, by rw [HZ.out]; exact hBr⟩
end Go.Proofs.YtdbankogamolcaaDoor
namespace Go.Proofs.YtdbankogamolcaaDoor
set_option linter.unusedSimpArgs false
set_option linter.unusedVariables false
open Go.ChangeShapes Go.WideShapes Go.ChangeAt Go.RowKit

theorem GivesInts.more {w w1 w' : World} {l : List Int} {e : Ending} (h : GivesInts w1 l e w') {a1 : Nat} (ha : w.heap.size = a1) (hb : Below a1 w w1) : GivesInts w l e w' := by
  obtain ⟨A, cap, h1, h2, h3⟩ := h
  exact ⟨A, cap, h1, h2, by rw [ha]; exact below_on hb (Nat.le_of_eq ha.symm) h3⟩

set_option maxRecDepth 100000 in
theorem cUpTo_any (c : Nat → Int) (hc : Ok64 c) (l : Int) (w : World) :
    Calls Tryd.prog 46 #[.agg (rowOf 14 (ints c)), .int .i64 l] w (GivesInts w (thrs c 0 l)) := by
  have f14 := fold14 c
  have cT := Lib.hid (cThreads_any c hc 0 l)
  go_enter Tryd.func46, Tryd.ntmps46
  go_upto_region 1 with fail
  generalize hW : World.alloc _ _ = W
  have hr : Row W w.heap.size 24 14 (ints c) := by rw [← hW]; exact Row.new _ _ _ _ _ rfl
  have hB : Below w.heap.size w W := by rw [← hW]; exact (Below.refl _ _).alloc (Nat.le_refl _) _
  clear hW
  generalize hz : w.heap.size = a1 at *
  have HZ := Lib.hid hz; clear hz
  obtain ⟨u0, u1, u2, u3, u4, u5, u6, u7, u8, u9, u10, u11, u12, u13⟩ := conf_cells hr
  go_wp2_with fail
  refine (cT.out _).mono ?_; intro e w' hg
  replace hg := hg.more HZ.out hB
  obtain ⟨A, cap, rfl, hg⟩ := hg
  have HG := Lib.hid hg
  clear hg
  clear u0 u1 u2 u3 u4 u5 u6 u7 u8 u9 u10 u11 u12 u13
  go_wp2_with fail
  go_ret
  exact ⟨A, cap, rfl, HG.out⟩

set_option maxRecDepth 100000 in
theorem rLevel_any (c : Nat → Int) (hc : Ok64 c) (t : Int) (ht : -9223372036854775808 ≤ t ∧ t ≤ 9223372036854775807) (w : World) :
    Calls Tryd.prog 26 #[.agg (rowOf 14 (ints c)), .int .i64 t] w fun e w' => e = .returned (.int .i64 (lvl c t)) ∧ Below w.heap.size w w' := by
  have f14 := fold14 c
  have cM := Lib.hid (rMay_any c hc)
  go_enter Tryd.func26, Tryd.ntmps26
  go_upto_region 1 with fail
  generalize hW : World.alloc _ _ = W
  have hr : Row W w.heap.size 24 14 (ints c) := by rw [← hW]; exact Row.new _ _ _ _ _ rfl
  have hB : Below w.heap.size w W := by rw [← hW]; exact (Below.refl _ _).alloc (Nat.le_refl _) _
  clear hW
  generalize hz : w.heap.size = a1 at *
  have HZ := Lib.hid hz; clear hz
  obtain ⟨u0, u1, u2, u3, u4, u5, u6, u7, u8, u9, u10, u11, u12, u13⟩ := conf_cells hr
  go_wp2_with fail
  refine (cM.out _).mono ?_; rintro e W1 ⟨rfl, hb1⟩
  have hr1 := hr.keep hb1
  have hB1 := below_on hB (Nat.le_of_eq HZ.out.symm) hb1
  clear u0 u1 u2 u3 u4 u5 u6 u7 u8 u9 u10 u11 u12 u13
  clear f14 cM hb1 hr hB
  obtain ⟨-, u1, -⟩ := conf_cells hr1
  cases hm : mayB c
  · have H := Lib.hid (lvl_no (c := c) (t := t) (by rw [hm]; simp))
    go_wp2_with fail
    go_ret
    exact ⟨by rw [H.out]; rfl, by rw [HZ.out]; exact hB1⟩
  · obtain ⟨-, b1, -⟩ := may_bounds hm
    by_cases h2 : 0 ≤ t
    · by_cases h3 : t < c 1
      · have H := Lib.hid (lvl_yes hm h2 h3)
        have uk : W1.cell? ⟨a1, 2 + t.toNat, none⟩ = some (.int .i64 (c (2 + t.toNat))) := hr1.cell (i := 2 + t.toNat) (by omega)
        go_wp2_with fail
        go_ret
        exact ⟨by rw [H.out]; rfl, by rw [HZ.out]; exact hB1⟩
      · have H := Lib.hid (lvl_no (c := c) (t := t) (fun h => h3 h.2.2))
        go_wp2_with fail
        go_ret
        exact ⟨by rw [H.out]; rfl, by rw [HZ.out]; exact hB1⟩
    · have H := Lib.hid (lvl_no (c := c) (t := t) (fun h => h2 h.2.1))
      go_wp2_with fail
      go_ret
      exact ⟨by rw [H.out]; rfl, by rw [HZ.out]; exact hB1⟩

def writesB (c : Nat → Int) (t l : Int) : Bool := decide (0 ≤ l) && (l == lvl c t)
def readsB (c : Nat → Int) (t l : Int) : Bool := withinB l 0 (lvl c t)
theorem writesB_eq (c : Nat → Int) (t l : Int) : writesB c t l = (decide (0 ≤ lvl c t) && (lvl c t == l)) := by
  unfold writesB
  rw [Bool.eq_iff_iff]
  simp
  omega
theorem readsB_eq (c : Nat → Int) (t l : Int) : readsB c t l = (decide (0 ≤ l) && decide (l ≤ lvl c t)) := rfl

end Go.Proofs.YtdbankogamolcaaDoor
namespace Go.Proofs.YtdbankogamolcaaDoor
set_option linter.unusedSimpArgs false
set_option linter.unusedVariables false
open Go.ChangeShapes Go.WideShapes Go.RowKit

/-- Bytes as a string. -/
def sB (l : List UInt8) : ByteArray := ⟨l.toArray⟩
theorem sB_append (a b : List UInt8) : sB a ++ sB b = sB (a ++ b) := by
  unfold sB
  ext1
  simp
theorem sB_size (l : List UInt8) : (sB l).size = l.length := by simp [sB, ByteArray.size]
theorem enc_ascii (n : Nat) (h : n < 128) : Utf8.encode (n : Int) = sB [UInt8.ofNat n] := by
  have hv : Utf8.valid (n : Int) = true := by unfold Utf8.valid; simp; omega
  unfold Utf8.encode
  rw [if_pos hv, Int.toNat_natCast]
  show (if n < 128 then _ else _) = _
  rw [if_pos h]
  rfl
/-- A number's digits. -/
def decN (n : Nat) : List UInt8 := if n < 10 then [UInt8.ofNat (48 + n)] else decN (n / 10) ++ [UInt8.ofNat (48 + n % 10)]
termination_by n
def numL (n : Int) : List UInt8 := bif decide (n < 0) then 45 :: decN n.natAbs else decN n.natAbs
theorem decN_small {n : Nat} (h : n < 10) : decN n = [UInt8.ofNat (48 + n)] := by rw [decN, if_pos h]
theorem decN_more {n : Nat} (h : ¬ n < 10) : decN n = decN (n / 10) ++ [UInt8.ofNat (48 + n % 10)] := by rw [decN, if_neg h]

theorem dec_len : ∀ (k n : Nat), n < 10 ^ (k + 1) → (decN n).length ≤ k + 1
  | 0, n, h => by rw [decN_small (by simpa using h)]; simp
  | k + 1, n, h => by
    by_cases hs : n < 10
    · rw [decN_small hs]; simp
    · rw [decN_more (n := n) hs]
      have := dec_len k (n / 10) (by rw [Nat.pow_succ] at h; omega)
      simp
      omega
theorem dec_size (n : Nat) (h : n ≤ 9223372036854775808) : (sB (decN n)).size ≤ 20 := by
  rw [sB_size]
  exact dec_len 19 n (by omega)
theorem numL_min : sB (numL (-9223372036854775808)) = ⟨#[45, 57, 50, 50, 51, 51, 55, 50, 48, 51, 54, 56, 53, 52, 55, 55, 53, 56, 48, 56]⟩ := by
  unfold numL
  rw [decide_eq_true (by omega)]
  show sB (45 :: decN 9223372036854775808) = _
  iterate 18 rw [decN_more (by decide)]
  rw [decN_small (by decide)]
  rfl
/-- What codes are called. -/
def namesL : List (List UInt8) := [[111, 107], [97, 114, 103], [114, 97, 110, 103, 101], [102, 111, 114, 109], [101, 110, 100], [108, 111, 110, 103], [110, 111, 110, 101], [101, 120, 105, 115, 116, 115], [102, 117, 108, 108], [108, 105, 109, 98, 111], [113, 117, 111, 116, 97], [115, 116, 97, 108, 101], [112, 111, 108, 105, 99, 121], [114, 101, 116, 114, 121], [98, 97, 100], [119, 111, 114, 110]]
def nameL (c : Int) : List UInt8 := bif decide (0 ≤ c ∧ c < 16) then namesL.getD c.toNat [] else [119, 104, 97, 116]
def namesF : Nat → Value := fun i => .string (sB (namesL.getD i []))
theorem namesF_one (n : Nat) : (rowOf n namesF).all (·.oneCell') = true := rowOf_one fun _ => rfl
theorem names_fold : #[Value.string ⟨#[111, 107]⟩, .string ⟨#[97, 114, 103]⟩, .string ⟨#[114, 97, 110, 103, 101]⟩, .string ⟨#[102, 111, 114, 109]⟩, .string ⟨#[101, 110, 100]⟩, .string ⟨#[108, 111, 110, 103]⟩, .string ⟨#[110, 111, 110, 101]⟩, .string ⟨#[101, 120, 105, 115, 116, 115]⟩, .string ⟨#[102, 117, 108, 108]⟩, .string ⟨#[108, 105, 109, 98, 111]⟩, .string ⟨#[113, 117, 111, 116, 97]⟩, .string ⟨#[115, 116, 97, 108, 101]⟩, .string ⟨#[112, 111, 108, 105, 99, 121]⟩, .string ⟨#[114, 101, 116, 114, 121]⟩, .string ⟨#[98, 97, 100]⟩, .string ⟨#[119, 111, 114, 110]⟩] = rowOf 16 namesF := rfl
theorem num_len (n : Int) (h0 : -9223372036854775808 ≤ n) (h1 : n ≤ 9223372036854775807) : (numL n).length ≤ 21 := by
  have h := dec_len 19 n.natAbs (by omega)
  unfold numL
  cases decide (n < 0)
  · exact Nat.le_succ_of_le h
  · exact Nat.succ_le_succ h
end Go.Proofs.YtdbankogamolcaaDoor
namespace Go.Proofs.YtdbankogamolcaaDoor
set_option linter.unusedSimpArgs false
set_option linter.unusedVariables false
open Go.ChangeShapes Go.WideShapes Go.ChangeAt Go.RowKit

/-- May a call be? -/
def mayC (op l r : Int) : Bool := decide (0 ≤ op) && (decide (op ≤ 12) && (decide (0 ≤ l) && (decide (l ≤ 3) && (decide (0 ≤ r) && decide (r ≤ 40)))))
theorem mayC_yes {op l r : Int} (h0 : 0 ≤ op) (h1 : op ≤ 12) (h2 : 0 ≤ l) (h3 : l ≤ 3) (h4 : 0 ≤ r) (h5 : r ≤ 40) : mayC op l r = true := by
  unfold mayC
  rw [decide_eq_true h0, decide_eq_true h1, decide_eq_true h2, decide_eq_true h3, decide_eq_true h4, decide_eq_true h5]
  rfl
theorem mayC_no {op l r : Int} (h : ¬ (0 ≤ op ∧ op ≤ 12 ∧ 0 ≤ l ∧ l ≤ 3 ∧ 0 ≤ r ∧ r ≤ 40)) : mayC op l r = false := by
  cases hm : mayC op l r
  · rfl
  · exfalso
    apply h
    unfold mayC at hm
    simp only [Bool.and_eq_true, decide_eq_true_eq] at hm
    exact ⟨hm.1, hm.2.1, hm.2.2.1, hm.2.2.2.1, hm.2.2.2.2.1, hm.2.2.2.2.2⟩
theorem mayC_ops {op l r : Int} (h : mayC op l r = true) : 0 ≤ op ∧ op ≤ 12 := by
  unfold mayC at h
  simp only [Bool.and_eq_true, decide_eq_true_eq] at h
  exact ⟨h.1, h.2.1⟩
def belowV (n s : Int) : Bool := decide (0 ≤ n) && decide (n < s)
theorem kBelow_any (n s : Int) (w : World) : Calls Tryd.prog 62 #[.int .i64 n, .int .i64 s] w fun e w' => e = .returned (.bool (belowV n s)) ∧ w = w' := by
  have H : Hid (belowV n s = (decide (0 ≤ n) && decide (n < s))) := Lib.hid rfl
  by_cases h1 : 0 ≤ n
  · by_cases h2 : n < s
    · go_enter Tryd.func62, Tryd.ntmps62
      go_wp2
      go_ret
      exact ⟨by rw [H.out]; simp [h1, h2], rfl⟩
    · go_enter Tryd.func62, Tryd.ntmps62
      go_wp2
      go_ret
      exact ⟨by rw [H.out]; simp [h2], rfl⟩
  · have H2 := Lib.hid (show belowV n s = false by unfold belowV; rw [decide_eq_false h1]; rfl)
    go_enter Tryd.func62, Tryd.ntmps62
    go_wp2
    go_ret
    exact ⟨by rw [H2.out]; rfl, rfl⟩
theorem kBelow_yes {n s : Int} (h0 : 0 ≤ n) (h1 : n < s) (w : World) : Calls Tryd.prog 62 #[.int .i64 n, .int .i64 s] w fun e w' => e = .returned (.bool true) ∧ w = w' := by
  have h := kBelow_any n s w
  unfold belowV at h
  rw [decide_eq_true h0, decide_eq_true h1] at h
  exact h
theorem kBelow_no {n s : Int} (h : ¬ (0 ≤ n ∧ n < s)) (w : World) : Calls Tryd.prog 62 #[.int .i64 n, .int .i64 s] w fun e w' => e = .returned (.bool false) ∧ w = w' := by
  have h2 := kBelow_any n s w
  have h3 : belowV n s = false := by
    unfold belowV
    cases hd : decide (0 ≤ n) <;> cases he : decide (n < s) <;> first | rfl | exact absurd ⟨of_decide_eq_true hd, of_decide_eq_true he⟩ h
  rw [h3] at h2
  exact h2
theorem kMay_any (op l key pa pb hd r : Int) (w : World) : Calls Tryd.prog 47 #[(.agg #[.int .i64 op, .int .i64 l, .int .i64 key, .int .u64 pa, .int .u64 pb, .int .u64 hd, .int .i64 r])] w fun e w' => e = .returned (.bool (mayC op l r)) ∧ Below w.heap.size w w' := by
  by_cases h1 : 0 ≤ op ∧ op ≤ 12
  · have C1 := Lib.hid (fun W => kBelow_yes (n := op) (s := 13) h1.1 (by omega) W)
    by_cases h2 : 0 ≤ l ∧ l ≤ 3
    · have C2 := Lib.hid (fun W => kBelow_yes (n := l) (s := 4) h2.1 (by omega) W)
      by_cases h3 : 0 ≤ r ∧ r ≤ 40
      · have C3 := Lib.hid (fun W => kBelow_yes (n := r) (s := 41) h3.1 (by omega) W)
        have H := Lib.hid (mayC_yes h1.1 h1.2 h2.1 h2.2 h3.1 h3.2)
        clear h1 h2 h3
        go_enter Tryd.func47, Tryd.ntmps47
        go_upto_region 1 with fail
        generalize hW : World.alloc _ _ = W
        have u0 : W.cell? ⟨w.heap.size, 0, none⟩ = some (.int .i64 op) := by rw [← hW]; simp
        have u1 : W.cell? ⟨w.heap.size, 1, none⟩ = some (.int .i64 l) := by rw [← hW]; simp
        have u5 : W.cell? ⟨w.heap.size, 6, none⟩ = some (.int .i64 r) := by rw [← hW]; simp
        have hB : Below w.heap.size w W := by rw [← hW]; exact (Below.refl _ _).alloc (Nat.le_refl _) _
        clear hW
        generalize hz : w.heap.size = a1 at *
        have HZ := Lib.hid hz; clear hz
        have HB := Lib.hid hB; clear hB
        go_wp2_with (first | (with_reducible refine (C1.out _).mono ?_; rintro e w' ⟨rfl, rfl⟩) | (with_reducible refine (C2.out _).mono ?_; rintro e w' ⟨rfl, rfl⟩) | (with_reducible refine (C3.out _).mono ?_; rintro e w' ⟨rfl, rfl⟩))
        go_ret
        exact ⟨by rw [H.out]; rfl, by rw [HZ.out]; exact HB.out⟩
      · have C3 := Lib.hid (fun W => kBelow_no (n := r) (s := 41) (by omega) W)
        have H := Lib.hid (mayC_no (op := op) (l := l) (r := r) (fun h => h3 h.2.2.2.2))
        clear h1 h2 h3
        go_enter Tryd.func47, Tryd.ntmps47
        go_upto_region 1 with fail
        generalize hW : World.alloc _ _ = W
        have u0 : W.cell? ⟨w.heap.size, 0, none⟩ = some (.int .i64 op) := by rw [← hW]; simp
        have u1 : W.cell? ⟨w.heap.size, 1, none⟩ = some (.int .i64 l) := by rw [← hW]; simp
        have u5 : W.cell? ⟨w.heap.size, 6, none⟩ = some (.int .i64 r) := by rw [← hW]; simp
        have hB : Below w.heap.size w W := by rw [← hW]; exact (Below.refl _ _).alloc (Nat.le_refl _) _
        clear hW
        generalize hz : w.heap.size = a1 at *
        have HZ := Lib.hid hz; clear hz
        have HB := Lib.hid hB; clear hB
        go_wp2_with (first | (with_reducible refine (C1.out _).mono ?_; rintro e w' ⟨rfl, rfl⟩) | (with_reducible refine (C2.out _).mono ?_; rintro e w' ⟨rfl, rfl⟩) | (with_reducible refine (C3.out _).mono ?_; rintro e w' ⟨rfl, rfl⟩))
        go_ret
        exact ⟨by rw [H.out]; rfl, by rw [HZ.out]; exact HB.out⟩
    · have C2 := Lib.hid (fun W => kBelow_no (n := l) (s := 4) (by omega) W)
      have H := Lib.hid (mayC_no (op := op) (l := l) (r := r) (fun h => h2 ⟨h.2.2.1, h.2.2.2.1⟩))
      clear h1 h2
      go_enter Tryd.func47, Tryd.ntmps47
      go_upto_region 1 with fail
      generalize hW : World.alloc _ _ = W
      have u0 : W.cell? ⟨w.heap.size, 0, none⟩ = some (.int .i64 op) := by rw [← hW]; simp
      have u1 : W.cell? ⟨w.heap.size, 1, none⟩ = some (.int .i64 l) := by rw [← hW]; simp
      have u5 : W.cell? ⟨w.heap.size, 6, none⟩ = some (.int .i64 r) := by rw [← hW]; simp
      have hB : Below w.heap.size w W := by rw [← hW]; exact (Below.refl _ _).alloc (Nat.le_refl _) _
      clear hW
      generalize hz : w.heap.size = a1 at *
      have HZ := Lib.hid hz; clear hz
      have HB := Lib.hid hB; clear hB
      go_wp2_with (first | (with_reducible refine (C1.out _).mono ?_; rintro e w' ⟨rfl, rfl⟩) | (with_reducible refine (C2.out _).mono ?_; rintro e w' ⟨rfl, rfl⟩))
      go_ret
      exact ⟨by rw [H.out]; rfl, by rw [HZ.out]; exact HB.out⟩
  · have C1 := Lib.hid (fun W => kBelow_no (n := op) (s := 13) (by omega) W)
    have H := Lib.hid (mayC_no (op := op) (l := l) (r := r) (fun h => h1 ⟨h.1, h.2.1⟩))
    clear h1
    go_enter Tryd.func47, Tryd.ntmps47
    go_upto_region 1 with fail
    generalize hW : World.alloc _ _ = W
    have u0 : W.cell? ⟨w.heap.size, 0, none⟩ = some (.int .i64 op) := by rw [← hW]; simp
    have u1 : W.cell? ⟨w.heap.size, 1, none⟩ = some (.int .i64 l) := by rw [← hW]; simp
    have u5 : W.cell? ⟨w.heap.size, 6, none⟩ = some (.int .i64 r) := by rw [← hW]; simp
    have hB : Below w.heap.size w W := by rw [← hW]; exact (Below.refl _ _).alloc (Nat.le_refl _) _
    clear hW
    generalize hz : w.heap.size = a1 at *
    have HZ := Lib.hid hz; clear hz
    have HB := Lib.hid hB; clear hB
    go_wp2_with (with_reducible refine (C1.out _).mono ?_; rintro e w' ⟨rfl, rfl⟩)
    go_ret
    exact ⟨by rw [H.out]; rfl, by rw [HZ.out]; exact HB.out⟩
theorem r9May_any (op l key pa pb hd r : Int) (w : World) : Calls Tryd.prog 27 #[(.agg #[.int .i64 op, .int .i64 l, .int .i64 key, .int .u64 pa, .int .u64 pb, .int .u64 hd, .int .i64 r])] w fun e w' => e = .returned (.bool (mayC op l r)) ∧ Below w.heap.size w w' := by
  have HN := Lib.hid (mayC_no (op := op) (l := l) (r := r))
  have HY := Lib.hid (mayC_yes (op := op) (l := l) (r := r))
  go_enter Tryd.func27, Tryd.ntmps27
  go_upto_region 1 with fail
  generalize hW : World.alloc _ _ = W
  have u0 : W.cell? ⟨w.heap.size, 0, none⟩ = some (.int .i64 op) := by rw [← hW]; simp
  have u1 : W.cell? ⟨w.heap.size, 1, none⟩ = some (.int .i64 l) := by rw [← hW]; simp
  have u5 : W.cell? ⟨w.heap.size, 6, none⟩ = some (.int .i64 r) := by rw [← hW]; simp
  have hB : Below w.heap.size w W := by rw [← hW]; exact (Below.refl _ _).alloc (Nat.le_refl _) _
  clear hW
  generalize hz : w.heap.size = a1 at *
  have HZ := Lib.hid hz; clear hz
  have HB := Lib.hid hB; clear hB
  by_cases h1 : 0 ≤ op
  · by_cases h2 : op ≤ 12
    · by_cases h3 : 0 ≤ l
      · by_cases h4 : l ≤ 3
        · by_cases h5 : 0 ≤ r
          · by_cases h6 : r ≤ 40
            · have H := Lib.hid (HY.out h1 h2 h3 h4 h5 h6)
              go_wp2_with fail
              go_ret
              exact ⟨by rw [H.out]; rfl, by rw [HZ.out]; exact HB.out⟩
            · have H := Lib.hid (HN.out (fun h => h6 h.2.2.2.2.2))
              go_wp2_with fail
              go_ret
              exact ⟨by rw [H.out]; rfl, by rw [HZ.out]; exact HB.out⟩
          · have H := Lib.hid (HN.out (fun h => h5 h.2.2.2.2.1))
            go_wp2_with fail
            go_ret
            exact ⟨by rw [H.out]; rfl, by rw [HZ.out]; exact HB.out⟩
        · have H := Lib.hid (HN.out (fun h => h4 h.2.2.2.1))
          go_wp2_with fail
          go_ret
          exact ⟨by rw [H.out]; rfl, by rw [HZ.out]; exact HB.out⟩
      · have H := Lib.hid (HN.out (fun h => h3 h.2.2.1))
        go_wp2_with fail
        go_ret
        exact ⟨by rw [H.out]; rfl, by rw [HZ.out]; exact HB.out⟩
    · have H := Lib.hid (HN.out (fun h => h2 h.2.1))
      go_wp2_with fail
      go_ret
      exact ⟨by rw [H.out]; rfl, by rw [HZ.out]; exact HB.out⟩
  · have H := Lib.hid (HN.out (fun h => h1 h.1))
    go_wp2_with fail
    go_ret
    exact ⟨by rw [H.out]; rfl, by rw [HZ.out]; exact HB.out⟩

/-- The ops are thirteen. -/
theorem ops13 {op : Int} (h0 : 0 ≤ op) (h1 : op ≤ 12) : op = 0 ∨ op = 1 ∨ op = 2 ∨ op = 3 ∨ op = 4 ∨ op = 5 ∨ op = 6 ∨ op = 7 ∨ op = 8 ∨ op = 9 ∨ op = 10 ∨ op = 11 ∨ op = 12 := by omega
def looksB (op : Int) : Bool := op == 1 || (op == 4 || (op == 8 || op == 10))
def partN (op : Int) : Int := bif decide (op < 0) || decide (11 < op) then -1 else Int.tdiv op 3
end Go.Proofs.YtdbankogamolcaaDoor
namespace Go.Proofs.YtdbankogamolcaaDoor
set_option linter.unusedSimpArgs false
set_option linter.unusedVariables false
open Go.ChangeShapes Go.WideShapes Go.ChangeAt Go.RowKit
set_option linter.unusedSimpArgs false

def lvE (s : Scr) (i : Nat) : Int := lvl s.c (enN s.e i).th
def entN (s : Scr) (lv : Int) : Nat → Nat
  | 0 => 0
  | i + 1 => entN s lv i + bif decide (lvE s i ≤ lv) then 1 else 0
def entW (x : Ent) : Bool := decide (x.wh < 0) || decide (3 < x.wh)
def entB (s : Scr) (lv : Int) : Nat → Bool
  | 0 => false
  | i + 1 => bif decide (lvE s i ≤ lv) then (entB s lv i || entW (enN s.e i)) else entB s lv i
def clsB (L : List Cl) (b : Bool) : Nat → Bool
  | 0 => b
  | k + 1 => clsB L b k || !mayC (clN L k).op (clN L k).l (clN L k).r
def prB (s : Scr) (lv : Int) (b : Bool) : Nat → Bool
  | 0 => b
  | t + 1 => bif decide (s.c (2 + t) ≤ lv) then clsB (s.p t) (prB s lv b t) (s.p t).length else prB s lv b t
def prL (s : Scr) (lv : Int) : Nat → Bool
  | 0 => false
  | t + 1 => bif decide (s.c (2 + t) ≤ lv) then (prL s lv t || decide (40 < (s.p t).length)) else prL s lv t
def argP (s : Scr) (t : Nat) : Bool := decide (lvl s.c t < 0) && decide (0 < (s.p t).length)
def argB (s : Scr) : Bool := (List.range 8).any (argP s) || (List.range s.e.length).any fun i => decide (lvE s i < 0)
/-- The code by which a script isn't right; 0: it is. -/
def rightN (s : Scr) (lv : Int) : Int :=
  bif !mayB s.c then 2 else bif argB s then 1 else bif prB s lv (entB s lv s.e.length) (s.c 1).toNat then 14 else bif prL s lv (s.c 1).toNat || decide (60000 < entN s lv s.e.length) then 5 else 0
theorem entN_le (s : Scr) (lv : Int) : ∀ i, entN s lv i ≤ i
  | 0 => Nat.le_refl _
  | i + 1 => by
    have := entN_le s lv i
    unfold entN
    cases decide (lvE s i ≤ lv) <;> simp only [cond] <;> omega
theorem any_no {n : Nat} {f : Nat → Bool} (h : ∀ i, i < n → f i = false) : (List.range n).any f = false := by
  rw [List.any_eq_false]; intro i hi; rw [h i (List.mem_range.1 hi)]; exact Bool.false_ne_true
theorem any_yes {n i : Nat} {f : Nat → Bool} (hi : i < n) (h : f i = true) : (List.range n).any f = true := by
  rw [List.any_eq_true]; exact ⟨i, List.mem_range.2 hi, h⟩
theorem clN_cl (x : Cl) : (clF x).toArray = clC x := rfl
/-- Right's block, and what was there. -/
structure RgtR (g : Nat) (f : Nat → Value) (s : Scr) (w W : World) : Prop where
  at_ : ScrAt g f s W
  bel : Below g w W
theorem RgtR.keep {g : Nat} {f : Nat → Value} {s : Scr} {w W W' : World} (h : RgtR g f s w W) (hb : Below W.heap.size W W') : RgtR g f s w W' := ⟨h.at_.keep hb, h.bel.trans (hb.mono (by have := h.at_.row.lt; omega))⟩
set_option maxRecDepth 100000 in
set_option maxHeartbeats 8000000 in
theorem r18Right_any (f : Nat → Value) (s : Scr) (lv : Int) (hlv : -9223372036854775808 ≤ lv ∧ lv ≤ 9223372036854775807) (hc : Ok64 s.c) (hle : s.e.length ≤ 1000000) (hlp : ∀ t, t < 8 → (s.p t).length ≤ 1000000) (hth : ∀ i, i < s.e.length → -9223372036854775808 ≤ (enN s.e i).th ∧ (enN s.e i).th ≤ 9223372036854775807) (w : World) (hs : ScrIs w f s) :
    Calls Tryd.prog 10 #[.agg (rowOf 23 f), .int .i64 lv] w fun e w' => e = .returned (.int .i64 (rightN s lv)) ∧ Below w.heap.size w w' := by
  have HT := Lib.hid (scr_new hs)
  have hf1 := fold14I s.c
  have CM := Lib.hid (fun W => rMay_any s.c hc W)
  have CL := Lib.hid (fun t ht W => rLevel_any s.c hc t ht W)
  have HX : Hid (rightN s lv = bif !mayB s.c then 2 else bif argB s then 1 else bif prB s lv (entB s lv s.e.length) (s.c 1).toNat then 14 else bif prL s lv (s.c 1).toNat || decide (60000 < entN s lv s.e.length) then 5 else 0) := Lib.hid rfl
  have HTH := Lib.hid hth
  clear hs hth
  cases hm : mayB s.c
  · rw [hm] at CM HX
    have HF := Lib.hid (show rightN s lv = 2 from HX.out)
    go_enter Tryd.func10, Tryd.ntmps10
    go_upto_region 1 with fail
    generalize hW : World.alloc _ _ = W
    have hr : RgtR w.heap.size f s w W := by
      obtain ⟨h1, h2⟩ := HT.out W hW
      exact ⟨h1, h2⟩
    clear hW HT
    generalize hg : w.heap.size = g at *
    have HG := Lib.hid hg; clear hg
    have HR := Lib.hid hr; clear hr
    go_wp2_with (first | (refine wpList_load_mid rfl 24 _ rfl g 0 rfl ((List.range 14).map (ints s.c)) _ HR.out.at_.confR Tryd.underlying24 rfl (by kernel_rfl) ?_) | (go_at_call 25; refine (CM.out _).mono ?_; rintro e w1 ⟨rfl, hb⟩))
    go_ret
    exact ⟨by rw [HF.out]; rfl, by rw [HG.out]; exact (HR.out.keep hb).bel⟩
  · have hbd := may_bounds hm
    rw [hm] at CM HX
    have HX1 : Hid (rightN s lv = bif argB s then 1 else bif prB s lv (entB s lv s.e.length) (s.c 1).toNat then 14 else bif prL s lv (s.c 1).toNat || decide (60000 < entN s lv s.e.length) then 5 else 0) := Lib.hid HX.out
    clear HX hm
    go_enter Tryd.func10, Tryd.ntmps10
    go_upto_region 1 with fail
    generalize hW : World.alloc _ _ = W
    have hr : RgtR w.heap.size f s w W := by
      obtain ⟨h1, h2⟩ := HT.out W hW
      exact ⟨h1, h2⟩
    clear hW HT
    generalize hg : w.heap.size = g at *
    have HG := Lib.hid hg; clear hg
    have HR := Lib.hid hr; clear hr
    go_upto_region 3 with (first | (refine wpList_load_mid rfl 24 _ rfl g 0 rfl ((List.range 14).map (ints s.c)) _ HR.out.at_.confR Tryd.underlying24 rfl (by kernel_rfl) ?_) | (go_at_call 25; refine (CM.out _).mono ?_; rintro e w1 ⟨rfl, hb⟩; have HR1 := Lib.hid (HR.out.keep hb); clear hb))
    clear HR CM
    go_wp2_with fail
    go_loopw [8] (fun v wr => ∃ t : Nat, v = .int .i64 t ∧ t ≤ 8 ∧ RgtR g f s w wr ∧ ∀ i, i < t → argP s i = false) (fun v _ => 8 - (intOf v).toNat)
    case atStart => exact ⟨0, rfl, Nat.zero_le _, HR1.out, fun i hi => by omega⟩
    case round =>
      clear HR1
      obtain ⟨t, rfl, ht, hr, he⟩ := hrel
      have HR := Lib.hid hr
      have HE := Lib.hid he
      clear hr he
      by_cases hlt : t < 8
      · have h8 : (t : Int) < 8 := by omega
        have CL1 := Lib.hid (fun W => CL.out (t : Int) (by omega) W)
        have HAt : Hid (argP s t = (decide (lvl s.c t < 0) && decide (0 < (s.p t).length))) := Lib.hid rfl
        have HEt : Hid (argP s t = false → ∀ i, i < t + 1 → argP s i = false) := Lib.hid fun h i hi => by
          rcases Nat.lt_or_ge i t with h2 | h2
          · exact HE.out i h2
          · obtain rfl : i = t := by omega
            exact h
        have HFt : Hid (argP s t = true → rightN s lv = 1) := Lib.hid fun h => by
          rw [HX1.out, show argB s = true by unfold argB; rw [any_yes hlt h]; rfl]; rfl
        clear HE
        generalize lvl s.c (t : Int) = l at *
        go_upto_region 9 with (first | (refine wpList_load_mid rfl 24 _ rfl g 0 rfl ((List.range 14).map (ints s.c)) _ HR.out.at_.confR Tryd.underlying24 rfl (by kernel_rfl) ?_) | (go_at_call 26; refine (CL1.out _).mono ?_; rintro e w2 ⟨rfl, hb⟩; have HR2 := Lib.hid (HR.out.keep hb); clear hb))
        obtain ⟨A3, c3, p3, -⟩ := HR2.out.at_.progV hlt
        generalize (s.p t).length = n3 at *
        by_cases hl : l < 0
        · by_cases hn : 0 < n3
          · have HF := Lib.hid (HFt.out (by rw [HAt.out, decide_eq_true hl, decide_eq_true hn]; rfl))
            go_wp2_with fail
            go_ret
            exact ⟨by rw [HF.out]; rfl, by rw [HG.out]; exact HR2.out.bel⟩
          · have HE2 := Lib.hid (HEt.out (by rw [HAt.out, decide_eq_false hn, Bool.and_false]))
            go_wp2_with fail
            go_roundw
            case rel => exact ⟨t + 1, by go_num, by omega, HR2.out, HE2.out⟩
            case measure => simp [intOf]; omega
        · have HE2 := Lib.hid (HEt.out (by rw [HAt.out, decide_eq_false hl, Bool.false_and]))
          go_wp2_with fail
          go_roundw
          case rel => exact ⟨t + 1, by go_num, by omega, HR2.out, HE2.out⟩
          case measure => simp [intOf]; omega
      · obtain rfl : t = 8 := by omega
        rw [show ((8 : Nat) : Int) = 8 from rfl]
        have HA1 := Lib.hid (any_no HE.out)
        clear HE
        have hel := entN_le s lv
        have HEN : Hid (∀ i, entN s lv (i + 1) = entN s lv i + bif decide (lvE s i ≤ lv) then 1 else 0) := Lib.hid fun _ => rfl
        have HEB : Hid (∀ i, entB s lv (i + 1) = bif decide (lvE s i ≤ lv) then (entB s lv i || entW (enN s.e i)) else entB s lv i) := Lib.hid fun _ => rfl
        have HX2 : Hid ((∀ i, i < s.e.length → decide (lvE s i < 0) = false) → argB s = false) := Lib.hid fun h => by unfold argB; rw [HA1.out, any_no h]; rfl
        have HX3 : Hid (∀ i, i < s.e.length → decide (lvE s i < 0) = true → rightN s lv = 1) := Lib.hid fun i hi h => by
          rw [HX1.out, show argB s = true by unfold argB; rw [any_yes hi h, Bool.or_true]]; rfl
        have HLV : Hid (∀ i, lvE s i = lvl s.c (enN s.e i).th) := Lib.hid fun _ => rfl
        clear HA1
        generalize hmm : s.e.length = m at *
        go_wp2_with fail
        go_loopw [5, 7, 10] (fun b n i wr => ∃ k : Nat, i = .int .i64 k ∧ k ≤ m ∧ b = .bool (entB s lv k) ∧ n = .int .i64 (entN s lv k : Nat) ∧ RgtR g f s w wr ∧ ∀ i, i < k → decide (lvE s i < 0) = false) (fun _ _ i _ => m - (intOf i).toNat)
        case atStart => exact ⟨0, rfl, Nat.zero_le _, rfl, rfl, HR.out, fun i hi => by omega⟩
        case round =>
          clear HR
          obtain ⟨k, rfl, hk, rfl, rfl, hr, he⟩ := hrel
          have HR := Lib.hid hr
          have HE := Lib.hid he
          have hek := hel k
          obtain ⟨A4, c4, p4, l4⟩ := hr.at_.entsV
          rw [hmm] at p4
          clear hr he
          by_cases hlt : k < m
          · obtain ⟨b1, off1, rfl, q0, q1⟩ := l4.atEnt2 (k := k) (by omega)
            have hthk := HTH.out k hlt
            have HENk := Lib.hid (HEN.out k); have HEBk := Lib.hid (HEB.out k)
            have HX3k := Lib.hid (HX3.out k hlt)
            have CL1 := Lib.hid (fun W => CL.out (enN s.e k).th hthk W)
            have HEt : Hid (decide (lvE s k < 0) = false → ∀ i, i < k + 1 → decide (lvE s i < 0) = false) := Lib.hid fun h i hi => by
              rcases Nat.lt_or_ge i k with h2 | h2
              · exact HE.out i h2
              · obtain rfl : i = k := by omega
                exact h
            rw [← HLV.out k] at CL1
            clear HE l4 hthk
            generalize lvE s k = l at *
            generalize entB s lv k = eb at *
            generalize entN s lv k = en at *
            have HEW : Hid (entW (enN s.e k) = (decide ((enN s.e k).wh < 0) || decide (3 < (enN s.e k).wh))) := Lib.hid rfl
            generalize entW (enN s.e k) = ew at *
            generalize (enN s.e k).wh = wh at *
            generalize (enN s.e k).th = th at *
            have HS0 := Lib.hid (And.intro p4 (And.intro q0 q1))
            have HKP : Hid (∀ w1 w2 : World, Below w1.heap.size w1 w2 → (fun w' : World => (RgtR g f s w w' ∧ w'.cell? ⟨g, 22, none⟩ = some (.slice (some ⟨b1, off1, none⟩) m c4) ∧ w'.cell? ⟨b1, off1 + k * 2, none⟩ = some (.int .i64 th) ∧ w'.cell? ⟨b1, off1 + k * 2 + 1, none⟩ = some (.int .i64 wh))) w1 → (fun w' : World => (RgtR g f s w w' ∧ w'.cell? ⟨g, 22, none⟩ = some (.slice (some ⟨b1, off1, none⟩) m c4) ∧ w'.cell? ⟨b1, off1 + k * 2, none⟩ = some (.int .i64 th) ∧ w'.cell? ⟨b1, off1 + k * 2 + 1, none⟩ = some (.int .i64 wh))) w2) := Lib.hid fun w1 w2 hb h => ⟨h.1.keep hb, cell_keep hb h.2.1, cell_keep hb h.2.2.1, cell_keep hb h.2.2.2⟩
            have HST : Hid ((fun w' : World => (RgtR g f s w w' ∧ w'.cell? ⟨g, 22, none⟩ = some (.slice (some ⟨b1, off1, none⟩) m c4) ∧ w'.cell? ⟨b1, off1 + k * 2, none⟩ = some (.int .i64 th) ∧ w'.cell? ⟨b1, off1 + k * 2 + 1, none⟩ = some (.int .i64 wh))) wr.drew) := Lib.hid ⟨HR.out.keep (Below.refl _ _).drew, p4, q0, q1⟩
            go_upto_region 14 with fail
            refine wp_region_noPanic ?_
            refine wp_region_held_drew (S := fun w' => (RgtR g f s w w' ∧ w'.cell? ⟨g, 22, none⟩ = some (.slice (some ⟨b1, off1, none⟩) m c4) ∧ w'.cell? ⟨b1, off1 + k * 2, none⟩ = some (.int .i64 th) ∧ w'.cell? ⟨b1, off1 + k * 2 + 1, none⟩ = some (.int .i64 wh))) (by kernel_rfl) (HST.out) (fun hHeld => ?_)
            try simp only [List.size_toArray, List.length_cons, List.length_nil, Nat.reduceAdd, Nat.reduceSub, Array.replicate_succ, Array.replicate_zero, List.push_toArray, List.append_toArray, List.nil_append, List.cons_append]   -- the listed as a literal: else each operation taken costs more than the last
            (refine wpAnyH_take (i := 0) (v := ?_) rfl (by kernel_rfl) (by kernel_rfl) (by kernel_rfl) (fun _ _ _ h => h) (Or.inl ⟨by rfl, ?_⟩) hHeld ?_; rotate_left; focus (intro w hSw; (try dsimp only at hSw); go_simp; (try with_reducible rfl)))
            try simp only [Act.put, List.getElem_toArray, List.getElem_cons_succ, List.getElem_cons_zero, List.setIfInBounds_toArray, List.set_cons_zero, List.set_cons_succ]
            first | (refine wpAnyH_take (i := 1) (v := _) rfl (by kernel_rfl) (by kernel_rfl) (by kernel_rfl) (fun _ _ _ h => h) (yieldsIf_load_mid (by rfl) 24 _ rfl g 0 rfl ((List.range 14).map (ints s.c)) _ (fun w' hw' => hw'.1.at_.confR) Tryd.underlying24 rfl (by kernel_rfl)) hHeld ?_)
            try simp only [Act.put, List.getElem_toArray, List.getElem_cons_succ, List.getElem_cons_zero, List.setIfInBounds_toArray, List.set_cons_zero, List.set_cons_succ]
            (refine wpAnyH_take (i := 2) (v := ?_) rfl (by kernel_rfl) (by kernel_rfl) (by kernel_rfl) (fun _ _ _ h => h) (Or.inl ⟨by rfl, ?_⟩) hHeld ?_; rotate_left; focus (intro w hSw; (try dsimp only at hSw); go_simp; (try with_reducible rfl)))
            try simp only [Act.put, List.getElem_toArray, List.getElem_cons_succ, List.getElem_cons_zero, List.setIfInBounds_toArray, List.set_cons_zero, List.set_cons_succ]
            (refine wpAnyH_take (i := 3) (v := ?_) rfl (by kernel_rfl) (by kernel_rfl) (by kernel_rfl) (fun _ _ _ h => h) (Or.inl ⟨by rfl, ?_⟩) hHeld ?_; rotate_left; focus (intro w hSw; (try dsimp only at hSw); go_simp; (try with_reducible rfl)))
            try simp only [Act.put, List.getElem_toArray, List.getElem_cons_succ, List.getElem_cons_zero, List.setIfInBounds_toArray, List.set_cons_zero, List.set_cons_succ]
            (refine wpAnyH_take (i := 4) (v := ?_) rfl (by kernel_rfl) (by kernel_rfl) (by kernel_rfl) (fun _ _ _ h => h) (Or.inl ⟨by rfl, ?_⟩) hHeld ?_; rotate_left; focus (intro w hSw; (try dsimp only at hSw); go_simp; (try with_reducible rfl)))
            try simp only [Act.put, List.getElem_toArray, List.getElem_cons_succ, List.getElem_cons_zero, List.setIfInBounds_toArray, List.set_cons_zero, List.set_cons_succ]
            (refine wpAnyH_take (i := 5) (v := ?_) rfl (by kernel_rfl) (by kernel_rfl) (by kernel_rfl) (fun _ _ _ h => h) (Or.inl ⟨by rfl, ?_⟩) hHeld ?_; rotate_left; focus (intro w hSw; (try dsimp only at hSw); go_simp; (try with_reducible rfl)))
            try simp only [Act.put, List.getElem_toArray, List.getElem_cons_succ, List.getElem_cons_zero, List.setIfInBounds_toArray, List.set_cons_zero, List.set_cons_succ]
            (refine wpAnyH_take (i := 6) (v := ?_) rfl (by kernel_rfl) (by kernel_rfl) (by kernel_rfl) (fun _ _ _ h => h) (Or.inl ⟨by rfl, ?_⟩) hHeld ?_; rotate_left; focus (intro w hSw; (try dsimp only at hSw); go_simp; (try with_reducible rfl)))
            try simp only [Act.put, List.getElem_toArray, List.getElem_cons_succ, List.getElem_cons_zero, List.setIfInBounds_toArray, List.set_cons_zero, List.set_cons_succ]
            (refine wpAnyH_take (i := 7) (v := ?_) rfl (by kernel_rfl) (by kernel_rfl) (by kernel_rfl) (fun _ _ _ h => h) (Or.inl ⟨by rfl, ?_⟩) hHeld ?_; rotate_left; focus (intro w hSw; (try dsimp only at hSw); go_simp; (try with_reducible rfl)))
            try simp only [Act.put, List.getElem_toArray, List.getElem_cons_succ, List.getElem_cons_zero, List.setIfInBounds_toArray, List.set_cons_zero, List.set_cons_succ]
            (refine wpAnyH_ready (rs := [8]) (by kernel_rfl) (by simp) ?_; refine AllReadyH.cons rfl (fun K hK => ?_) AllReadyH.nil; go_simp; (go_at_call 26; refine (CL1.out _).mono ?_; rintro t w' ⟨rfl, hb⟩); (try go_wp2_with fail); refine hK.out _ _ ?_ (fun hHeld' => ?_); (focus (first | exact HKP.out _ _ hb hHeld | exact hHeld)); clear hK K; replace hHeld := hHeld'; clear hHeld')
            try simp only [Act.put, List.getElem_toArray, List.getElem_cons_succ, List.getElem_cons_zero, List.setIfInBounds_toArray, List.set_cons_zero, List.set_cons_succ]
            (refine wpAnyH_take (i := 9) (v := ?_) rfl (by kernel_rfl) (by kernel_rfl) (by kernel_rfl) (fun _ _ _ h => h) (Or.inl ⟨by rfl, ?_⟩) hHeld ?_; rotate_left; focus (intro w hSw; (try dsimp only at hSw); go_simp; (try with_reducible rfl)))
            try simp only [Act.put, List.getElem_toArray, List.getElem_cons_succ, List.getElem_cons_zero, List.setIfInBounds_toArray, List.set_cons_zero, List.set_cons_succ]
            refine wpAnyH_done (by kernel_rfl) ?_ _
            refine NoPanic.normal ?_
            obtain ⟨hR2, p4', q0', q1'⟩ := hHeld
            have HR2 := Lib.hid hR2
            clear hR2 hb p4 q0 q1 q0' HS0 HKP HST CL1 HR
            by_cases hl : l < 0
            · have HF := Lib.hid (HX3k.out (decide_eq_true hl))
              go_wp2_with fail
              go_ret
              exact ⟨by rw [HF.out]; rfl, by rw [HG.out]; exact HR2.out.bel⟩
            · have HE2 := Lib.hid (HEt.out (decide_eq_false hl))
              by_cases hll : l ≤ lv
              · rw [decide_eq_true hll] at HENk HEBk
                have HNk : Hid (entN s lv (k + 1) = en + 1) := Lib.hid HENk.out
                have HBk : Hid (entB s lv (k + 1) = (eb || ew)) := Lib.hid HEBk.out
                rw [HEW.out] at HBk
                cases eb
                · by_cases h1 : wh < 0
                  · rw [decide_eq_true h1] at HBk
                    go_wp2_with fail
                    go_roundw
                    case rel => exact ⟨k + 1, by go_num, by omega, by rw [HBk.out]; rfl, by rw [HNk.out]; go_num, HR2.out, HE2.out⟩
                    case measure => simp [intOf]; omega
                  · rw [decide_eq_false h1, Bool.false_or, Bool.false_or] at HBk
                    go_wp2_with fail
                    go_roundw
                    case rel => exact ⟨k + 1, by go_num, by omega, by rw [HBk.out], by rw [HNk.out]; go_num, HR2.out, HE2.out⟩
                    case measure => simp [intOf]; omega
                · rw [Bool.true_or] at HBk
                  go_wp2_with fail
                  go_roundw
                  case rel => exact ⟨k + 1, by go_num, by omega, by rw [HBk.out], by rw [HNk.out]; go_num, HR2.out, HE2.out⟩
                  case measure => simp [intOf]; omega
              · rw [decide_eq_false hll] at HENk HEBk
                go_wp2_with fail
                go_roundw
                case rel => exact ⟨k + 1, by go_num, by omega, by rw [HEBk.out]; rfl, by rw [HENk.out]; rfl, HR2.out, HE2.out⟩
                case measure => simp [intOf]; omega
          · obtain rfl : k = m := by omega
            have HAF := Lib.hid (HX2.out HE.out)
            rw [HAF.out] at HX1
            have HX4 : Hid (rightN s lv = bif prB s lv (entB s lv k) (s.c 1).toNat then 14 else bif prL s lv (s.c 1).toNat || decide (60000 < entN s lv k) then 5 else 0) := Lib.hid HX1.out
            obtain ⟨T, hT⟩ : ∃ T : Nat, s.c 1 = (T : Int) := ⟨(s.c 1).toNat, by have := hbd.2.1; omega⟩
            have hT8 : T ≤ 8 := by have := hbd.2.1; omega
            rw [hT, Int.toNat_natCast] at HX4
            have HPB : Hid (∀ b t, prB s lv b (t + 1) = bif decide (s.c (2 + t) ≤ lv) then clsB (s.p t) (prB s lv b t) (s.p t).length else prB s lv b t) := Lib.hid fun _ _ => rfl
            have HPL : Hid (∀ t, prL s lv (t + 1) = bif decide (s.c (2 + t) ≤ lv) then (prL s lv t || decide (40 < (s.p t).length)) else prL s lv t) := Lib.hid fun _ => rfl
            have HT := Lib.hid hT
            clear HX1 HX2 HX3 HEN HEB HLV HE HAF HTH CL hel hT hbd l4
            generalize hB0 : entB s lv k = B0 at *
            generalize hN0 : entN s lv k = N0 at *
            clear hB0 hN0
            go_wp2_with fail
            go_loopw [5, 6, 12] (fun b l i wr => ∃ t : Nat, i = .int .i64 t ∧ t ≤ T ∧ b = .bool (prB s lv B0 t) ∧ l = .bool (prL s lv t) ∧ RgtR g f s w wr) (fun _ _ i _ => T - (intOf i).toNat)
            case atStart => exact ⟨0, rfl, Nat.zero_le _, rfl, rfl, HR.out⟩
            case round =>
              clear HR
              obtain ⟨t, rfl, ht, rfl, rfl, hr⟩ := hrel
              have HR := Lib.hid hr
              have c1 : wr.cell? ⟨g, 1, none⟩ = some (.int .i64 (T : Int)) := by rw [hr.at_.row.cell (i := 1) (by omega), hr.at_.scr.conf 1 (by omega), HT.out]
              by_cases hlt : t < T
              · have h8 : (t : Int) < 8 := by omega
                have h8n : t < 8 := by omega
                have co : wr.cell? ⟨g, 2 + t, none⟩ = some (.int .i64 (s.c (2 + t))) := by rw [hr.at_.row.cell (by omega), hr.at_.scr.conf (2 + t) (by omega)]
                have HPBt := Lib.hid (HPB.out B0 t); have HPLt := Lib.hid (HPL.out t)
                have HLP := Lib.hid (hlp t h8n)
                clear hr
                generalize s.c (2 + t) = ot at *
                generalize prB s lv B0 t = bt at *
                generalize prL s lv t = lt at *
                by_cases ho : lv < ot
                · rw [decide_eq_false (show ¬ ot ≤ lv by omega)] at HPBt HPLt
                  go_wp2_with fail
                  go_roundw
                  case rel => exact ⟨t + 1, by go_num, by omega, by rw [HPBt.out]; rfl, by rw [HPLt.out]; rfl, HR.out⟩
                  case measure => simp [intOf]; omega
                · rw [decide_eq_true (show ot ≤ lv by omega)] at HPBt HPLt
                  have HPB2 : Hid (prB s lv B0 (t + 1) = clsB (s.p t) bt (s.p t).length) := Lib.hid HPBt.out
                  have HPL2 : Hid (prL s lv (t + 1) = (lt || decide (40 < (s.p t).length))) := Lib.hid HPLt.out
                  clear HPBt HPLt
                  have HCS : Hid (∀ j, clsB (s.p t) bt (j + 1) = (clsB (s.p t) bt j || !mayC (clN (s.p t) j).op (clN (s.p t) j).l (clN (s.p t) j).r)) := Lib.hid fun _ => rfl
                  have HPV : Hid (∀ W, RgtR g f s w W → ∃ A c, W.cell? ⟨g, 14 + t, none⟩ = some (.slice A (s.p t).length c) ∧ LiesC W A (flatF clF (s.p t))) := Lib.hid fun W h => h.at_.progV h8n
                  generalize hnn : (s.p t).length = n at *
                  have hnl := HLP.out
                  go_wp2_with fail
                  go_loopw [5, 13] (fun b i wr => ∃ j : Nat, i = .int .i64 j ∧ j ≤ n ∧ b = .bool (clsB (s.p t) bt j) ∧ RgtR g f s w wr) (fun _ i _ => n - (intOf i).toNat)
                  case atStart => exact ⟨0, rfl, Nat.zero_le _, rfl, HR.out⟩
                  case round =>
                    clear HR c1
                    obtain ⟨j, rfl, hj, rfl, hr⟩ := hrel
                    have HR := Lib.hid hr
                    obtain ⟨A5, c5, p5, l5⟩ := HPV.out wr hr
                    clear hr
                    by_cases hlt2 : j < n
                    · obtain ⟨b2, off2, rfl, _, x2⟩ := l5.atCl (by omega)
                      have HRG : Hid (wr.rangeAt b2 (off2 + j * 7) (clF (clN (s.p t) j))) := Lib.hid (x2 j (by omega))
                      have HCj := Lib.hid (HCS.out j)
                      have CY : Hid (∀ W, Calls Tryd.prog 27 #[.agg (clF (clN (s.p t) j)).toArray] W fun e w' => e = .returned (.bool (mayC (clN (s.p t) j).op (clN (s.p t) j).l (clN (s.p t) j).r)) ∧ Below W.heap.size W w') := Lib.hid (fun W => r9May_any _ _ _ _ _ _ _ W)
                      clear x2 l5
                      generalize mayC (clN (s.p t) j).op (clN (s.p t) j).l (clN (s.p t) j).r = mj at *
                      have h7 : (clF (clN (s.p t) j)).length = 7 := rfl
                      have H7 := Lib.hid h7; clear h7
                      generalize clF (clN (s.p t) j) = cv at *
                      generalize clsB (s.p t) bt j = bj at *
                      cases bj
                      · rw [Bool.false_or] at HCj
                        go_wp2_with (first
                          | (refine wpList_load_midG (by rfl) 61 _ rfl b2 (off2 + j * 7) rfl cv _ HRG.out Tryd.underlying61 rfl (by rw [H7.out]; kernel_rfl) ?_)
                          | (go_at_call 27; refine (CY.out _).mono ?_; rintro e w6 ⟨rfl, hb⟩; have HR6 := Lib.hid (HR.out.keep hb); clear hb))
                        go_roundw
                        case rel => exact ⟨j + 1, by go_num, by omega, by rw [HCj.out], HR6.out⟩
                        case measure => simp [intOf]; omega
                      · rw [Bool.true_or] at HCj
                        go_wp2_with fail
                        go_roundw
                        case rel => exact ⟨j + 1, by go_num, by omega, by rw [HCj.out], HR.out⟩
                        case measure => simp [intOf]; omega
                    · obtain rfl : j = n := by omega
                      rw [← HPB2.out]
                      clear l5
                      cases lt
                      · rw [Bool.false_or] at HPL2
                        go_wp2_with fail
                        go_roundw
                        case rel => exact ⟨t + 1, by go_num, by omega, rfl, by rw [HPL2.out]; simp; omega, HR.out⟩
                        case measure => simp [intOf]; omega
                      · rw [Bool.true_or] at HPL2
                        go_wp2_with fail
                        go_roundw
                        case rel => exact ⟨t + 1, by go_num, by omega, rfl, by rw [HPL2.out], HR.out⟩
                        case measure => simp [intOf]; omega
              · obtain rfl : t = T := by omega
                clear hr
                generalize prB s lv B0 t = bt at *
                generalize prL s lv t = lt at *
                cases bt
                · cases lt
                  · by_cases hn : 60000 < N0
                    · rw [decide_eq_true hn] at HX4
                      have HF := Lib.hid (show rightN s lv = 5 from HX4.out)
                      go_wp2_with fail
                      go_ret
                      exact ⟨by rw [HF.out]; rfl, by rw [HG.out]; exact HR.out.bel⟩
                    · rw [decide_eq_false hn] at HX4
                      have HF := Lib.hid (show rightN s lv = 0 from HX4.out)
                      go_wp2_with fail
                      go_ret
                      exact ⟨by rw [HF.out]; rfl, by rw [HG.out]; exact HR.out.bel⟩
                  · have HF := Lib.hid (show rightN s lv = 5 from HX4.out)
                    go_wp2_with fail
                    go_ret
                    exact ⟨by rw [HF.out]; rfl, by rw [HG.out]; exact HR.out.bel⟩
                · have HF := Lib.hid (show rightN s lv = 14 from HX4.out)
                  go_wp2_with fail
                  go_ret
                  exact ⟨by rw [HF.out]; rfl, by rw [HG.out]; exact HR.out.bel⟩

/-- The highest level up to which a script is right. -/
def topUp (s : Scr) : Nat → Int
  | 0 => -1
  | l + 1 => bif decide (rightN s l = 0) then (l : Int) else topUp s l
def topN (s : Scr) : Int := topUp s (min (s.c 0) 4).toNat
set_option maxRecDepth 100000 in
set_option maxHeartbeats 4000000 in
theorem r18Top_any (f : Nat → Value) (s : Scr) (hc : Ok64 s.c) (hle : s.e.length ≤ 1000000) (hlp : ∀ t, t < 8 → (s.p t).length ≤ 1000000) (hth : ∀ i, i < s.e.length → -9223372036854775808 ≤ (enN s.e i).th ∧ (enN s.e i).th ≤ 9223372036854775807) (w : World) (hs : ScrIs w f s) :
    Calls Tryd.prog 13 #[.agg (rowOf 23 f)] w fun e w' => e = .returned (.int .i64 (topN s)) ∧ Below w.heap.size w w' := by
  have HT := Lib.hid (scr_new hs)
  have CR := Lib.hid (fun (l : Int) h W hW => r18Right_any f s l h hc hle hlp hth W hW)
  have HC0 := Lib.hid (hc 0)
  have HX : Hid (topN s = topUp s (min (s.c 0) 4).toNat) := Lib.hid rfl
  have HU : Hid (∀ l, topUp s (l + 1) = bif decide (rightN s l = 0) then (l : Int) else topUp s l) := Lib.hid fun _ => rfl
  have HU0 : Hid (topUp s 0 = -1) := Lib.hid rfl
  clear hs hth hlp hle hc
  go_enter Tryd.func13, Tryd.ntmps13
  go_upto_region 1 with fail
  generalize hW : World.alloc _ _ = W
  have hr : RgtR w.heap.size f s w W := by
    obtain ⟨h1, h2⟩ := HT.out W hW
    exact ⟨h1, h2⟩
  clear hW HT
  generalize hg : w.heap.size = g at *
  have HG := Lib.hid hg; clear hg
  have HR := Lib.hid hr; clear hr
  go_wp2_with fail
  go_loopw [3, 4] (fun v i wr => ∃ k : Nat, i = .int .i64 k ∧ k ≤ 4 ∧ ((k : Int) ≤ s.c 0 ∨ k = 0) ∧ v = .int .i64 (topUp s k) ∧ RgtR g f s w wr) (fun _ i _ => 4 - (intOf i).toNat)
  case atStart => exact ⟨0, rfl, Nat.zero_le _, .inr rfl, by rw [HU0.out], HR.out⟩
  case round =>
    clear HR
    obtain ⟨k, rfl, hk, hk2, rfl, hr⟩ := hrel
    have HR := Lib.hid hr
    have c0 : wr.cell? ⟨g, 0, none⟩ = some (.int .i64 (s.c 0)) := by rw [hr.at_.row.cell (i := 0) (by omega), hr.at_.scr.conf 0 (by omega)]
    have h1 := hr.at_.row
    have HK2 := Lib.hid hk2
    clear hr hk2
    have hb0 := HC0.out
    generalize hct : s.c 0 = ct at *
    by_cases h0 : (k : Int) < ct
    · by_cases h4 : k < 4
      · have h4i : (k : Int) < 4 := by omega
        have HUk := Lib.hid (HU.out k)
        have CRk := Lib.hid (fun W hW => CR.out (k : Int) (by omega) W hW)
        generalize rightN s (k : Int) = r at *
        by_cases hr0 : r = 0
        · rw [decide_eq_true hr0] at HUk
          have d1 : (r == 0) = true := by rw [hr0]; rfl
          go_wp2_with (first | (refine wpList_load_row rfl 29 _ rfl g rfl 29 (rowOf 23 f) (0, 0) _ h1 Tryd.underlying29 rfl (by kernel_rfl) ?_) | (go_at_call 10; refine (CRk.out _ HR.out.at_.scr).mono ?_; rintro e w2 ⟨rfl, hb⟩; have HR2 := Lib.hid (HR.out.keep hb); clear hb))
          go_roundw
          case rel => exact ⟨k + 1, by go_num, by omega, .inl (by omega), by rw [HUk.out]; rfl, HR2.out⟩
          case measure => simp [intOf]; omega
        · rw [decide_eq_false hr0] at HUk
          have d1 : (r == 0) = false := by simp [hr0]
          go_wp2_with (first | (refine wpList_load_row rfl 29 _ rfl g rfl 29 (rowOf 23 f) (0, 0) _ h1 Tryd.underlying29 rfl (by kernel_rfl) ?_) | (go_at_call 10; refine (CRk.out _ HR.out.at_.scr).mono ?_; rintro e w2 ⟨rfl, hb⟩; have HR2 := Lib.hid (HR.out.keep hb); clear hb))
          go_roundw
          case rel => exact ⟨k + 1, by go_num, by omega, .inl (by omega), by rw [HUk.out]; rfl, HR2.out⟩
          case measure => simp [intOf]; omega
      · have h4i : ¬ (k : Int) < 4 := by omega
        have HF : Hid (topN s = topUp s k) := Lib.hid (by rw [HX.out, show (min ct 4).toNat = k by omega])
        go_wp2_with fail
        go_ret
        exact ⟨by rw [HF.out]; rfl, by rw [HG.out]; exact HR.out.bel⟩
    · have HF : Hid (topN s = topUp s k) := Lib.hid (by rw [HX.out, show (min ct 4).toNat = k by have := HK2.out; omega])
      go_wp2_with fail
      go_ret
      exact ⟨by rw [HF.out]; rfl, by rw [HG.out]; exact HR.out.bel⟩
end Go.Proofs.YtdbankogamolcaaDoor
