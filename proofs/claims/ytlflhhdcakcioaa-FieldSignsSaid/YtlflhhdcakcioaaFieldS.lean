/- What the functions of package field over slices answer. -/
import Derived.Test.YtlflhhdcakcioaaLaw
import Derived.Test.YtlflhhdcakcioaaSizes
import Derived.Test.YtlflhhdcakcioaaField
namespace Go.Proofs.Ytlflhhdcakcioaa
open Go.ChangeShapes Go.WideShapes Go.ChangeAt Go.RowKit

theorem together_any (A : Option Addr) (c : Nat) (l : List Int) (hn : l.length ≤ 9223372036854775807) (hb : ∀ i, -9223372036854775808 ≤ l.getD i 0 ∧ l.getD i 0 ≤ 9223372036854775807)
    (w : World) (hr : RowIs w A l.length (fun i => .int .i64 (l.getD i 0))) :
    Calls Try.prog 33 #[.slice A l.length c] w fun e w' => e = .returned (.tuple #[.int .i64 (sumS l), .bool (okS l)]) ∧ w = w' := by
  have Hok : Hid (∀ k, k < l.length → l.getD k 0 < 1 → okS l = false ∧ sumS l = 0) := Lib.hid (fun k hk h => ⟨okS_not hk h, sumS_no (okS_not hk h)⟩)
  have Hov : Hid (∀ k, k ≤ l.length → 64 < tot l k → okS l = false ∧ sumS l = 0) := Lib.hid (fun k hk h => ⟨okS_over hk h, sumS_no (okS_over hk h)⟩)
  have Hy : Hid ((∀ i, i < l.length → 1 ≤ l.getD i 0) → tot l l.length ≤ 64 → okS l = true ∧ sumS l = tot l l.length) := Lib.hid (fun h1 h2 => ⟨okS_yes h1 h2, sumS_yes (okS_yes h1 h2)⟩)
  generalize hlen : l.length = n at *
  have Hlen := Lib.hid hlen; clear hlen
  go_enter Try.func33, Try.ntmps33
  go_wp2
  go_loop [4, 6, 9] (fun t _ i => ∃ k : Nat, k ≤ n ∧ i = .int .i64 k ∧ t = .int .i64 (tot l k) ∧ 0 ≤ tot l k ∧ tot l k ≤ 64 ∧ Hid (∀ j, j < k → 1 ≤ l.getD j 0)) (fun _ _ i => n - (intOf i).toNat)
  case atStart => exact ⟨0, Nat.zero_le _, rfl, rfl, by unfold tot; omega, by unfold tot; omega, Lib.hid (fun j hj => by omega)⟩
  case round =>
    obtain ⟨k, hk, rfl, rfl, ht0, ht, Hp⟩ := hrel
    by_cases hlt : k < n
    · obtain ⟨b, off, rfl, hbl, hcell⟩ := hr (by omega)
      have hck : w.cell? ⟨b, off + k, none⟩ = some (.int .i64 (l.getD k 0)) := hcell k hlt
      clear hcell hr
      have hbk := hb k
      have Ht := Lib.hid (tot_succ l k)
      generalize hz : l.getD k 0 = z at *
      have Hz := Lib.hid hz; clear hz
      by_cases h1 : z < 1
      · have H := Lib.hid (Hok.out k hlt (by rw [Hz.out]; exact h1))
        go_wp2
        all_goals first | (exfalso; omega) | (go_ret2; exact ⟨by rw [H.out.1, H.out.2]; rfl, rfl⟩)
      · by_cases h2 : 64 - tot l k < z
        · have H := Lib.hid (Hov.out (k + 1) hlt (by rw [Ht.out]; omega))
          go_wp2
          all_goals first | (exfalso; omega) | (go_ret2; exact ⟨by rw [H.out.1, H.out.2]; rfl, rfl⟩)
        · go_wp2
          all_goals first | (exfalso; omega) | skip
          go_round
          case rel => exact ⟨k + 1, by omega, by go_num, by rw [Ht.out], by rw [Ht.out]; omega, by rw [Ht.out]; omega, Lib.hid (fun j hj => by
            rcases Nat.lt_or_ge j k with h | h
            · exact Hp.out j h
            · obtain rfl : j = k := by omega
              rw [Hz.out]; omega)⟩
          case measure => simp [intOf]; omega
    · obtain rfl : k = n := by omega
      have H := Lib.hid (Hy.out Hp.out ht)
      go_wp2
      go_ret2
      exact ⟨by rw [H.out.1, H.out.2]; rfl, rfl⟩

set_option maxHeartbeats 1000000 in
theorem fPack_any (A B : Option Addr) (c d : Nat) (l : List Int) (ns : List Nat) (hn : l.length ≤ 9223372036854775807) (hm : ns.length ≤ 9223372036854775807) (hb : ∀ i, -9223372036854775808 ≤ l.getD i 0 ∧ l.getD i 0 ≤ 9223372036854775807)
    (hx : ∀ i, ns.getD i 0 < 18446744073709551616)
    (w : World) (hr : RowIs w A l.length (fun i => .int .i64 (l.getD i 0))) (hq : RowIs w B ns.length (fun i => .int .u64 (ns.getD i 0 : Nat))) :
    Calls Try.prog 19 #[.slice A l.length c, .slice B ns.length d] w fun e w' => e = .returned (.tuple #[.int .u64 (packV l ns : Nat), .bool (okP l ns)]) ∧ Drew w w' := by
  have Ht := Lib.hid (together_any A c l hn hb w hr)
  cases ho : okS l
  · have H1 := Lib.hid (okP_sizes (ns := ns) ho)
    have H2 := Lib.hid (packV_no H1.out)
    have H3 := Lib.hid ho; clear ho
    go_enter Try.func19, Try.ntmps19
    go_wp2_with (go_at_call 33; refine (Ht.out).mono ?_; rintro e w' ⟨rfl, rfl⟩; rw [H3.out])
    go_ret2
    exact ⟨by rw [H1.out, H2.out]; rfl, Drew.refl w⟩
  · by_cases hl : l.length = ns.length
    · have hl2 : ((l.length : Int) != l.length) = false := by simp
      have Hf : Hid (fitsTo l ns l.length = false → okP l ns = false ∧ packV l ns = 0) := Lib.hid (fun h => ⟨okP_fits h, packV_no (okP_fits h)⟩)
      have Hy : Hid (fitsTo l ns l.length = true → okP l ns = true ∧ packV l ns = packTo l ns l.length) := Lib.hid (fun h => ⟨okP_yes ho hl h, packV_yes (okP_yes ho hl h)⟩)
      rw [← hl] at hq hm ⊢
      have H3 := Lib.hid ho; clear ho hl
      go_enter Try.func19, Try.ntmps19
      go_wp2_with (go_at_call 33; refine (Ht.out).mono ?_; rintro e w' ⟨rfl, rfl⟩; rw [H3.out])
      go_loopw [8, 9, 10, 11, 28] (fun x t _ _ i wr => ∃ k : Nat, k ≤ l.length ∧ i = .int .i64 k ∧ t = .int .i64 (tot l k) ∧ x = .int .u64 (packTo l ns k : Nat) ∧ Hid (fitsTo l ns k = true) ∧ Drew w wr) (fun _ _ _ _ i _ => l.length - (intOf i).toNat)
      case atStart => exact ⟨0, Nat.zero_le _, rfl, rfl, rfl, Lib.hid rfl, Drew.refl w⟩
      case round =>
        obtain ⟨k, hk, rfl, rfl, rfl, Hk, hd⟩ := hrel
        by_cases hlt : k < l.length
        · obtain ⟨b, off, rfl, hbl, hcell⟩ := hr (by omega)
          obtain ⟨b2, off2, rfl, hbl2, hcell2⟩ := hq (by omega)
          have hck : w.cell? ⟨b, off + k, none⟩ = some (.int .i64 (l.getD k 0)) := hcell k hlt
          have hck2 : w.cell? ⟨b2, off2 + k, none⟩ = some (.int .u64 (ns.getD k 0 : Nat)) := hcell2 k hlt
          rw [← hd.cell] at hck hck2
          clear hcell hcell2 hr hq
          have hz := okS_size H3.out hlt
          have hxk := hx k
          have ht1 := tot_nonneg (fun i hi => okS_pos H3.out hi) hk
          have ht2 := okS_le H3.out (show k + 1 ≤ l.length by omega)
          rw [tot_succ] at ht2
          have Htk := Lib.hid (tot_succ l k)
          have hbey := beyond (ns.getD k 0) hxk (l.getD k 0) (by omega) hz.2
          have hplt : packTo l ns k < 18446744073709551616 := Nat.lt_of_lt_of_le (packTo_lt H3.out hk Hk.out) (by rw [← pw_64]; exact pw_le (by omega))
          have Hpl := Lib.hid (packTo_lt H3.out hk Hk.out)
          have Hno : Hid (¬ ns.getD k 0 < pw (l.getD k 0).toNat → fitsTo l ns l.length = false) := Lib.hid (fun h => fitsTo_not hlt h)
          have Hyes : Hid (ns.getD k 0 < pw (l.getD k 0).toNat → fitsTo l ns (k + 1) = true) := Lib.hid (fun h => fitsTo_succ Hk.out h)
          have Hpk : Hid (packTo l ns (k + 1) = packTo l ns k + ns.getD k 0 * pw (tot l k).toNat) := Lib.hid rfl
          generalize ns.getD k 0 = x at *
          generalize l.getD k 0 = z at *
          by_cases hc : x < pw z.toNat
          · rw [decide_eq_false (by omega)] at hbey
            have Hset := Lib.hid (setN_add (by omega) (by omega) ht2 Hpl.out hc)
            go_wp2
            go_quiet ((go_at_call 28; exact Calls.quiet_of_same (quiet_eq (lowest_any _ (by omega) _))))
            go_wp2_with (go_at_call 16; refine (fSet_any _ hplt _ _ (by omega) (by omega) _ hxk _).mono ?_; rintro e w' ⟨rfl, rfl⟩; rw [Hset.out])
            go_roundw
            case rel => exact ⟨k + 1, by omega, by go_num, by rw [Htk.out], by rw [Hpk.out]; go_num, Lib.hid (Hyes.out hc), hd.more _⟩
            case measure => simp [intOf]; omega
          · rw [decide_eq_true (by omega)] at hbey
            have H := Lib.hid (Hf.out (Hno.out hc))
            go_wp2
            go_quiet ((go_at_call 28; exact Calls.quiet_of_same (quiet_eq (lowest_any _ (by omega) _))))
            go_wp2
            go_ret2
            exact ⟨by rw [H.out.1, H.out.2]; rfl, hd.more _⟩
        · obtain rfl : k = l.length := by omega
          have H := Lib.hid (Hy.out Hk.out)
          go_wp2
          go_ret2
          exact ⟨by rw [H.out.1, H.out.2]; rfl, hd⟩
    · have H1 := Lib.hid (okP_len hl)
      have H2 := Lib.hid (packV_no H1.out)
      have H3 := Lib.hid ho; clear ho
      have hl1 : (l.length : Int) ≠ ns.length := by omega
      have hl2 : ((l.length : Int) != ns.length) = true := by rw [bne_iff_ne]; exact hl1
      go_enter Try.func19, Try.ntmps19
      go_wp2_with (go_at_call 33; refine (Ht.out).mono ?_; rintro e w' ⟨rfl, rfl⟩; rw [H3.out])
      go_ret2
      exact ⟨by rw [H1.out, H2.out]; rfl, Drew.refl w⟩

/-- The i-th number that is unpacked. -/
def unp (l : List Int) (x : Nat) (i : Nat) : Value := .int .u64 (cutN x (tot l i) (l.getD i 0) : Nat)
def UnpackPost (l : List Int) (x : Nat) (w : World) (e : Ending) (w' : World) : Prop :=
  Below w.heap.size w w' ∧ (okU l x = true → ∃ A c, e = .returned (.tuple #[.slice A l.length c, .bool true]) ∧ RowIs w' A l.length (unp l x)) ∧
    (okU l x = false → e = .returned (.tuple #[.slice none 0 0, .bool false]))

theorem UnpackPost.no {l : List Int} {x : Nat} {w w' : World} (h : okU l x = false) (hb : Below w.heap.size w w') : UnpackPost l x w (.returned (.tuple #[.slice none 0 0, .bool false])) w' :=
  ⟨hb, ⟨fun h2 => by (rw [h] at h2; cases h2), fun _ => rfl⟩⟩
theorem UnpackPost.yes {l : List Int} {x : Nat} {w w' : World} {A : Option Addr} {c : Nat} (h : okU l x = true) (hb : Below w.heap.size w w') (hr : RowIs w' A l.length (unp l x)) : UnpackPost l x w (.returned (.tuple #[.slice A l.length c, .bool true])) w' :=
  ⟨hb, ⟨fun _ => ⟨A, c, rfl, hr⟩, fun h2 => by (rw [h] at h2; cases h2)⟩⟩
/-- The row while it is filled: the first k are there. -/
def upTo (l : List Int) (x k i : Nat) : Value := if i < k then unp l x i else .int .u64 0
theorem upTo_made (l : List Int) (x : Nat) (w : World) (t : TypeId) : Own (w.alloc (.cells (madeCells #[.int .u64 0] l.length) t)) w.heap.size l.length (upTo l x 0) := by
  refine Own.new w _ t _ _ (size_madeCells _ _) (fun i hi => ?_)
  rw [← Array.getElem?_toList, toList_madeCells_one, List.getElem?_replicate, if_pos hi]
  rfl
theorem upTo_next {l : List Int} {x k : Nat} {w : World} {g : Nat} (h : Own w g l.length (upTo l x k)) : Own (w.setCell ⟨g, k, none⟩ (unp l x k)) g l.length (upTo l x (k + 1)) := by
  refine (h.set_ k (unp l x k)).congr (fun i hi => ?_)
  unfold upTo
  by_cases e : i = k
  · subst e; simp
  · rw [if_neg e]
    by_cases e2 : i < k
    · rw [if_pos e2, if_pos (by omega)]
    · rw [if_neg e2, if_neg (by omega)]
theorem upTo_all {l : List Int} {x : Nat} {w : World} {g : Nat} (h : Own w g l.length (upTo l x l.length)) : Own w g l.length (unp l x) :=
  h.congr (fun i hi => by unfold upTo; rw [if_pos hi])
theorem infoU64 : (Try.prog.info? 22).map (fun i => (i.zero, i.size, i.bytes)) = some (some (.int .u64 0), 1, 8) := by kernel_rfl

set_option maxHeartbeats 1000000 in
theorem fUnpack_any (A : Option Addr) (c : Nat) (l : List Int) (hn : l.length ≤ 9223372036854775807) (hb : ∀ i, -9223372036854775808 ≤ l.getD i 0 ∧ l.getD i 0 ≤ 9223372036854775807)
    (x : Nat) (hx : x < 18446744073709551616) (w : World) (hr : RowIs w A l.length (fun i => .int .i64 (l.getD i 0))) :
    Calls Try.prog 21 #[.slice A l.length c, .int .u64 x] w (UnpackPost l x w) := by
  have Ht := Lib.hid (together_any A c l hn hb w hr)
  cases ho : okS l
  · have H1 := Lib.hid (okU_sizes (x := x) ho)
    have H3 := Lib.hid ho; clear ho
    go_enter Try.func21, Try.ntmps21
    go_wp2_with (go_at_call 33; refine (Ht.out).mono ?_; rintro e w' ⟨rfl, rfl⟩; rw [H3.out])
    go_ret2
    exact UnpackPost.no H1.out (Below.refl _ _)
  · have hs := sumS_yes ho
    have hs2 := sumS_range l
    have hbey := beyond x hx (sumS l) hs2.1 hs2.2
    rw [hs] at hbey
    by_cases hc : x < pw (tot l l.length).toNat
    · have H1 := Lib.hid (okU_yes ho hc)
      rw [decide_eq_false (by omega), ← hs] at hbey
      have hl64 := okS_len ho
      have H3 := Lib.hid ho; clear ho hs
      have hmk := fun W : World => run_make_row' (P := Try.prog) 35 22 (.int .u64 0) 8 Try.underlying35 infoU64 rfl .i64 .i64 l.length (by omega) hn W
      go_enter Try.func21, Try.ntmps21
      go_wp2_with (first | (go_at_call 33; refine (Ht.out).mono ?_; rintro e w' ⟨rfl, rfl⟩; rw [H3.out]) | (go_at_call 28; refine (lowest_any _ (by omega) _).mono ?_; rintro e w' ⟨rfl, rfl⟩))
      go_loopw [9, 10, 11, 31] (fun t _ _ i wr => ∃ k : Nat, k ≤ l.length ∧ i = .int .i64 k ∧ t = .int .i64 (tot l k) ∧ Own wr w.heap.size l.length (upTo l x k) ∧ Below w.heap.size w wr) (fun _ _ _ i _ => l.length - (intOf i).toNat)
      case atStart => exact ⟨0, Nat.zero_le _, rfl, rfl, upTo_made l x w _, (Below.refl _ _).alloc (Nat.le_refl _) _⟩
      case round =>
        obtain ⟨k, hk, rfl, rfl, hown, hbw⟩ := hrel
        by_cases hlt : k < l.length
        · obtain ⟨b, off, rfl, hbl, hcell⟩ := hr (by omega)
          have hck : w.cell? ⟨b, off + k, none⟩ = some (.int .i64 (l.getD k 0)) := hcell k hlt
          rw [← hbw.cell (p := ⟨b, off + k, none⟩) hbl] at hck
          have hoc := hown.cell hlt
          have hof := hown.frozen k
          clear hcell hr
          have hz := okS_size H3.out hlt
          have ht1 := tot_nonneg (fun i hi => okS_pos H3.out hi) hk
          have ht2 := okS_le H3.out (show k + 1 ≤ l.length by omega)
          rw [tot_succ] at ht2
          have Htk := Lib.hid (tot_succ l k)
          have Hnx := Lib.hid (upTo_next hown)
          generalize hg : w.heap.size = g at *
          have Hg := Lib.hid hg; clear hg
          generalize hgz : l.getD k 0 = z at *
          have Hz := Lib.hid hgz; clear hgz
          go_wp2_with (go_at_call 10; refine (fCut_any x hx _ _ (by omega) (by omega) _).mono ?_; rintro e w' ⟨rfl, rfl⟩)
          go_roundw
          case rel => exact ⟨k + 1, by omega, by go_num, by rw [Htk.out], by (have h := Hnx.out; unfold unp at h; rw [Hz.out] at h; exact h), hbw.setCell (Nat.le_refl _) _⟩
          case measure => simp [intOf]; omega
        · obtain rfl : k = l.length := by omega
          go_wp2
          go_ret2
          exact UnpackPost.yes H1.out hbw (upTo_all hown).row
    · have H1 := Lib.hid (okU_big (l := l) (x := x) (by omega))
      rw [decide_eq_true (by omega), ← hs] at hbey
      have H3 := Lib.hid ho; clear ho hs
      go_enter Try.func21, Try.ntmps21
      go_wp2_with (first | (go_at_call 33; refine (Ht.out).mono ?_; rintro e w' ⟨rfl, rfl⟩; rw [H3.out]) | (go_at_call 28; refine (lowest_any _ (by omega) _).mono ?_; rintro e w' ⟨rfl, rfl⟩))
      go_ret2
      exact UnpackPost.no H1.out (Below.refl _ _)
end Go.Proofs.Ytlflhhdcakcioaa
