/- Package script: a reader of bytes: ended, number, small. · Package script: the reader's conf. · Package script: there; the reader's entry. · Package script: ofNobody. · What is so of a script up to a level, thread by thread of a list. -/
import Derived.Test.YtdbankogamolcaaDoorJ11
import Derived.Test.YtdbankogamolcaaDoorJ12
import Derived.BigQuiet
import Derived.WalkLawsBesides
import Derived.Test.YtdbankogamolcaaDoorJ6
import Derived.Deep.WholeRow
import Derived.Test.YtdbankogamolcaaDoorJ7
namespace Go.Proofs.YtdbankogamolcaaDoor
set_option linter.unusedSimpArgs false
set_option linter.unusedVariables false
set_option linter.unusedSimpArgs false
open Go.ChangeShapes Go.WideShapes Go.ChangeAt Go.RowKit

theorem Only.past {F : Nat → Prop} {w w1 w2 : World} (h : Only F w w1) (hb : Below w.heap.size w1 w2) : Only F w w2 := ⟨h.1.trans (hb.mono (Nat.zero_le _)), fun i hi hn => (hb.block i hi).trans (h.2 i hi hn)⟩
theorem TabW.past {w w' : World} {n : Nat} (h : TabW w) (hb : Below n w w') (hn : 1 < n) : TabW w' := var?_below hb tabG hn h
/-- A reader in a block: at place i of bytes. -/
structure RdIs (w : World) (p : Nat) (A : Option Addr) (c : Nat) (L : List Int) (i : Nat) : Prop where
  blk : Cells w p 74 [.slice A L.length c, .int .i64 i]
  lies : LiesC w A (flatB L)
  far : L ≠ [] → ∀ a, A = some a → a.block < p
  tab : TabW w
  tp : 1 < p
/-- Blocks from n on turned. -/
theorem RdIs.past {w w' : World} {p n : Nat} {A : Option Addr} {c : Nat} {L : List Int} {i : Nat} (h : RdIs w p A c L i) (hb : Below n w w') (hn : p < n) : RdIs w' p A c L i := by
  refine ⟨(hb.block p hn).trans h.blk, ?_, h.far, h.tab.past hb (Nat.lt_trans h.tp hn), h.tp⟩
  by_cases e : L = []
  · subst e; exact .inl rfl
  · rcases h.lies with h1 | ⟨b, off, rfl, hlt, hc⟩
    · exact .inl h1
    · have := h.far e _ rfl
      simp only at this
      exact .inr ⟨b, off, rfl, Nat.lt_of_lt_of_le hlt hb.size, fun j v hj => (hb.cell (p := ⟨b, off + j, none⟩) (by show b < n; omega)).trans (hc j v hj)⟩
theorem RdIs.keep {w w' : World} {p : Nat} {A : Option Addr} {c : Nat} {L : List Int} {i : Nat} (h : RdIs w p A c L i) (hb : Below w.heap.size w w') : RdIs w' p A c L i := h.past hb h.blk.lt
theorem RdIs.put {w : World} {p : Nat} {A : Option Addr} {c : Nat} {L : List Int} {i : Nat} (h : RdIs w p A c L i) (j : Nat) : RdIs (w.setCell ⟨p, 1, none⟩ (.int .i64 j)) p A c L j := by
  have hb : Below p w (w.setCell ⟨p, 1, none⟩ (.int .i64 j)) := (Below.refl _ _).setCell (p := ⟨p, 1, none⟩) (Nat.le_refl _) _
  refine ⟨h.blk.set_ 1 _, ?_, h.far, h.tab.past hb h.tp, h.tp⟩
  by_cases e : L = []
  · subst e; exact .inl rfl
  · exact h.lies.only ((Only.refl (fun b => b = p) w).setCell rfl _) (fun a ha => by have := h.far e a ha; show ¬ a.block = p; omega)
/-- What a panic's value tells: the code. -/
def PanV (w : World) (v : Value) (c : Int) : Prop := (c = 4 ∧ ∃ n : Nat, n ≤ 2000000 ∧ v = .iface 71 (.int .i64 n)) ∨ (c ≠ 0 ∧ ∃ g s, v = .iface 80 (.pointer (some ⟨g, 0, none⟩)) ∧ ErrsIs w (.note g s (.code c)))
/-- Note, of a code. -/
theorem note_code (s : List UInt8) (k : Int) (_hk : k ≠ 0) (bk : -9223372036854775808 ≤ k ∧ k ≤ 9223372036854775807) (hs : s.length ≤ 200) (w : World) :
    Calls Tryd.prog 21 #[.string (sB s), .iface 35 (.int .i64 k)] w fun r w' => ∃ g, r = .returned (.iface 80 (.pointer (some ⟨g, 0, none⟩))) ∧ ErrsIs w' (.note g s (.code k)) ∧ Below w.heap.size w w' := by
  refine (note_any s (.code k) w (by simp) bk hs).mono ?_
  rintro r w' ⟨h1, h2, h3⟩
  exact ⟨_, h1, h2, h3⟩
theorem rEnded_any {p : Nat} {A : Option Addr} {c : Nat} {L : List Int} {i : Nat} (w : World) (h : RdIs w p A c L i) :
    Calls Tryd.prog 58 #[.pointer (some ⟨p, 0, none⟩)] w fun e w' => e = .returned (.bool (decide (i = L.length))) ∧ Drew w w' := by
  have p0 := h.blk.cell0
  have p1 := h.blk.cell1
  have HD : Hid (((i : Int) == (L.length : Int)) = decide (i = L.length)) := Lib.hid (by rw [Bool.eq_iff_iff, beq_iff_eq, decide_eq_true_iff]; omega)
  clear h
  generalize L.length = n at *
  go_enter Tryd.func58, Tryd.ntmps58
  go_upto_region 1 with fail
  go_quiet (fail)
  go_wp2_with fail
  go_ret
  exact ⟨by rw [← HD.out]; rfl, ⟨_, rfl⟩⟩
/-- The same as a natural number. -/
def rdT (L : List Int) (i k : Nat) : Nat := (rdN L i k).toNat
theorem rdT_int {L : List Int} (h : Byt L) (i k : Nat) : ((rdT L i k : Nat) : Int) = rdN L i k := by
  have := (rdN_bound h i k).1
  unfold rdT
  omega
def byT (L : List Int) (i : Nat) : Nat := (byN L i).toNat
theorem byT_int {L : List Int} (h : Byt L) (i : Nat) : ((byT L i : Nat) : Int) = byN L i := by
  have := (byN_bound h i).1
  unfold byT
  omega
theorem rdT_one {L : List Int} (_h : Byt L) (i : Nat) : rdT L i 1 = byT L i := by
  unfold rdT byT rdN rdN
  rw [Int.pow_zero, Int.one_mul, Int.zero_add]
  rfl
def onlyP (p : Nat) : Nat → Prop := fun b => b = p
set_option maxHeartbeats 4000000 in
theorem rNumber_any {p : Nat} {A : Option Addr} {c : Nat} {L : List Int} {j : Nat} (hB : Byt L) (hl : L.length ≤ 2000000) (hj : j ≤ L.length) (s : Nat) (hs : s ≤ 8) (w : World) (h : RdIs w p A c L j) :
    Calls Tryd.prog 71 #[.pointer (some ⟨p, 0, none⟩), .int .i64 s] w fun e w' =>
      (j + s ≤ L.length ∧ e = .returned (.int .u64 (rdT L j s : Nat)) ∧ RdIs w' p A c L (j + s) ∧ Only (onlyP p) w w') ∨ (L.length < j + s ∧ e = .panicked [{ v := .iface 71 (.int .i64 L.length), recovered := false }] ∧ Only (onlyP p) w w') := by
  have H0 := Lib.hid (And.intro h (And.intro hB hj))
  clear h hB hj
  go_enter Tryd.func71, Tryd.ntmps71
  go_wp2_with fail
  go_loopw [5, 8] (fun n i wr => ∃ k : Nat, i = .int .i64 k ∧ k ≤ s ∧ j + k ≤ L.length ∧ n = .int .u64 (rdT L j k : Nat) ∧ RdIs wr p A c L (j + k) ∧ Only (onlyP p) w wr) (fun _ i _ => s - (intOf i).toNat)
  case atStart => exact ⟨0, rfl, Nat.zero_le _, H0.out.2.2, rfl, H0.out.1, Only.refl _ _⟩
  case round =>
    obtain ⟨k, rfl, hk, hjk, rfl, hR, hO⟩ := hrel
    by_cases hlt : k < s
    · have CE := Lib.hid (rEnded_any wr hR)
      have HR := Lib.hid hR; have HO := Lib.hid hO
      clear hR hO
      by_cases hend : j + k = L.length
      · rw [decide_eq_true hend] at CE
        go_upto_region 6 with (go_at_call 58; refine CE.out.mono ?_; rintro e w1 ⟨rfl, hd⟩; have p1 := (HR.out.keep (hd.below _)).blk.cell1; have HD := Lib.hid hd; clear hd)
        generalize hq : j + k = q at *
        have HQ := Lib.hid hq; clear hq
        go_wp2_with fail
        exact ⟨rfl, .inr ⟨by have := HQ.out; omega, rfl, HO.out.then (HD.out.below _)⟩⟩
      · rw [decide_eq_false hend] at CE
        obtain ⟨b, off, rfl, _, hx⟩ := HR.out.lies.atB (by omega)
        go_upto_region 7 with (go_at_call 58; refine CE.out.mono ?_; rintro e w1 ⟨rfl, hd⟩; have hR1 := HR.out.keep (hd.below _); have HD := Lib.hid hd; clear hd)
        obtain ⟨b', off', e', _, hx'⟩ := hR1.lies.atB (by omega)
        cases e'
        have p0 := hR1.blk.cell0
        have p1 := hR1.blk.cell1
        have f1 := hR1.blk.frozen 1
        have p2 := hx' (j + k) (by omega)
        have hb1 := rdN_bound H0.out.2.1 j k
        have hb2 := byN_bound H0.out.2.1 (j + k)
        have hp : (256 : Int) ^ k ≤ 18446744073709551616 := pow256_le (by omega)
        have hset := set_rd H0.out.2.1 j k (by omega)
        have hi1 := rdT_int H0.out.2.1 j k
        have hi2 := rdT_int H0.out.2.1 j (k + 1)
        have hi3 := byT_int H0.out.2.1 (j + k)
        change ((setN (rdT L j k) ((k : Int) * 8) 8 (byT L (j + k)) : Nat) : Int) = _ at hset
        have CS := Lib.hid (fun W => fSet_any (rdT L j k) (by omega) ((k : Int) * 8) 8 (by omega) (by omega) (byT L (j + k)) (by omega) W)
        rw [show setN (rdT L j k) ((k : Int) * 8) 8 (byT L (j + k)) = rdT L j (k + 1) by omega] at CS
        change w1.cell? ⟨b, off + (j + k), none⟩ = some (.int .u8 (byN L (j + k))) at p2
        rw [show byN L (j + k) = ((byT L (j + k) : Nat) : Int) by omega] at p2
        have hy : byT L (j + k) < 256 := by omega
        have HR1 := Lib.hid hR1
        have HJ : Hid (j + (k + 1) = j + k + 1) := Lib.hid rfl
        clear hx hx' hb1 hb2 hp hset hi1 hi2 hi3 hR1 HR CE
        generalize rdT L j k = x at *
        generalize hx2 : rdT L j (k + 1) = x2 at *
        have HX2 := Lib.hid hx2; clear hx2
        generalize byT L (j + k) = y at *
        generalize hq : j + k = q at *
        have hq1 : (q : Int) < L.length := by omega
        have hy2 : IntKind.u64.wrap (y : Int) = y := by rw [IntKind.wrap_u64]; omega
        have hk8 : IntKind.i64.wrap ((k : Int) * 8) = (k : Int) * 8 := by rw [IntKind.wrap_i64]; omega
        generalize hn : L.length = n at *
        go_quiet ((go_at_call 55; exact Calls.quiet_of_same (quiet_eq (CS.out _))))
        go_wp2_with fail
        go_roundw
        case rel => exact ⟨k + 1, by go_num, by omega, by omega, by rw [HX2.out], by rw [HJ.out]; exact (HR1.out.keep (Drew.below ⟨_, rfl⟩ _)).put (q + 1), ((HO.out.then (HD.out.below _)).then (Drew.below ⟨_, rfl⟩ _)).setCell (p := ⟨p, 1, none⟩) rfl _⟩
        case measure => simp [intOf]; omega
    · obtain rfl : k = s := by omega
      have HO := Lib.hid hO
      have HR := Lib.hid hR
      clear hR hO
      go_wp2_with fail
      go_ret
      exact .inl ⟨hjk, rfl, HR.out, HO.out⟩
/-- What a call of the reader's gives: a value, and the place behind it; or a panic that says the code. -/
def RdGives (p : Nat) (A : Option Addr) (c : Nat) (L : List Int) (w : World) (i : Nat) (v : Value) (k : Int) (e : Ending) (w' : World) : Prop :=
  (k = 0 ∧ e = .returned v ∧ RdIs w' p A c L i ∧ i ≤ L.length ∧ Only (onlyP p) w w') ∨ (k ≠ 0 ∧ ∃ u, e = .panicked [{ v := u, recovered := false }] ∧ PanV w' u k ∧ Only (onlyP p) w w')
theorem rSmall_any {p : Nat} {A : Option Addr} {c : Nat} {L : List Int} {j : Nat} (hB : Byt L) (hl : L.length ≤ 2000000) (hj : j ≤ L.length) (w : World) (h : RdIs w p A c L j) :
    Calls Tryd.prog 70 #[.pointer (some ⟨p, 0, none⟩)] w fun e w' =>
      (j + 1 ≤ L.length ∧ e = .returned (.int .i64 (byN L j)) ∧ RdIs w' p A c L (j + 1) ∧ Only (onlyP p) w w') ∨ (L.length < j + 1 ∧ e = .panicked [{ v := .iface 71 (.int .i64 L.length), recovered := false }] ∧ Only (onlyP p) w w') := by
  have C1 := Lib.hid (rNumber_any hB hl hj 1 (by omega) w h)
  have hb := byN_bound hB j
  have h1 : rdT L j 1 = byT L j := by
    unfold rdT byT rdN rdN
    rw [Int.pow_zero, Int.one_mul, Int.zero_add]
    rfl
  have h2 := byT_int hB j
  rw [h1] at C1
  have h3 : IntKind.i64.wrap ((byT L j : Nat) : Int) = byN L j := by rw [IntKind.wrap_i64]; omega
  clear h1 h2 hb h
  generalize byT L j = y at *
  generalize byN L j = x at *
  go_enter Tryd.func70, Tryd.ntmps70
  go_wp2_with (go_at_call 71; refine C1.out.mono ?_; rintro e w1 (⟨ha, rfl, hb, hc⟩ | ⟨ha, rfl, hc⟩))
  · go_ret
    exact .inl ⟨ha, rfl, hb, hc⟩
  · exact ⟨rfl, .inr ⟨ha, rfl, hc⟩⟩
/-- How many bytes were read, in words. -/
def behL (n : Nat) : List UInt8 := [98, 101, 104, 105, 110, 100, 32] ++ numL n ++ [32, 98, 121, 116, 101, 115]
theorem behL_len {n : Nat} (h : n ≤ 2000000) : (behL n).length ≤ 200 := by
  have := num_len (n : Int) (by omega) (by omega)
  unfold behL
  simp only [List.length_append, List.length_cons, List.length_nil]
  omega
theorem behind_any (n : Nat) (h : n ≤ 2000000) (w : World) (ht : TabW w) : Calls Tryd.prog 38 #[.int .i64 n] w fun e w' => e = .returned (.string (sB (behL n))) ∧ Below w.heap.size w w' := by
  have C1 := Lib.hid (itoa_any (n : Int) (by omega) (by omega) w ht)
  have hq : (⟨#[98, 101, 104, 105, 110, 100, 32]⟩ : ByteArray) ++ sB (numL n) ++ (⟨#[32, 98, 121, 116, 101, 115]⟩ : ByteArray) = sB (behL n) := by
    unfold behL sB
    rw [ByteArray.ext_iff]
    simp [ByteArray.data_append]
  have z1 : (sB (numL n)).size ≤ 21 := by rw [sB_size]; exact num_len _ (by omega) (by omega)
  generalize sB (numL n) = q1 at *
  generalize sB (behL n) = q2 at *
  have y1 : (9223372036854775807 < 7 + q1.size) = False := eq_false (by omega)
  generalize hL1 : (⟨#[98, 101, 104, 105, 110, 100, 32]⟩ : ByteArray) ++ q1 = s1 at *
  have x1 : s1.size ≤ 28 := by rw [← hL1, ByteArray.size_append]; show 7 + q1.size ≤ 28; omega
  have y2 : (9223372036854775807 < s1.size + 6) = False := eq_false (by omega)
  go_enter Tryd.func38, Tryd.ntmps38
  go_wp2_with (go_at_call 48; refine C1.out.mono ?_; rintro e w1 ⟨rfl, hb⟩)
  go_ret
  exact ⟨rfl, hb⟩
set_option maxHeartbeats 1000000 in
theorem rRefuse_any {p : Nat} {A : Option Addr} {c : Nat} {L : List Int} {j : Nat} (hl : L.length ≤ 2000000) (hj : j ≤ L.length) (k : Int) (hk : k ≠ 0) (bk : -9223372036854775808 ≤ k ∧ k ≤ 9223372036854775807) (w : World) (h : RdIs w p A c L j) :
    Calls Tryd.prog 59 #[.pointer (some ⟨p, 0, none⟩), .int .i64 k] w fun e w' => ∃ u, e = .panicked [{ v := u, recovered := false }] ∧ PanV w' u k ∧ Below w.heap.size w w' := by
  have p1 := h.blk.cell1
  have C1 := Lib.hid (behind_any j (by omega) w h.tab)
  have C2 := Lib.hid (fun W => note_code (behL j) k hk bk (behL_len (by omega)) W)
  clear h
  generalize sB (behL j) = q at *
  go_enter Tryd.func59, Tryd.ntmps59
  go_wp2_with (first | (go_at_call 38; refine C1.out.mono ?_; rintro e w1 ⟨rfl, hb⟩) | (go_at_call 21; refine (C2.out _).mono ?_; rintro e w2 ⟨g, rfl, he, hb2⟩))
  exact ⟨rfl, _, rfl, .inr ⟨hk, g, _, rfl, he⟩, hb.trans (hb2.mono hb.size)⟩
end Go.Proofs.YtdbankogamolcaaDoor
namespace Go.Proofs.YtdbankogamolcaaDoor
set_option linter.unusedSimpArgs false
set_option linter.unusedVariables false
set_option linter.unusedSimpArgs false
open Go.ChangeShapes Go.WideShapes Go.ChangeAt Go.RowKit

/-- Where a call of the reader's stands: only the reader's block has turned of what was there. -/
structure Rd0 (w : World) (p : Nat) (A : Option Addr) (c : Nat) (L : List Int) (r i : Nat) (T : TypeId) (n : Nat) (z : Nat → Value) (W : World) : Prop where
  sz : w.heap.size = r
  rd : RdIs W p A c L i
  on : Only (onlyP p) w W
  lt : p < r
  res : Row W r T n z
/-- The same, with a block of the call's own behind the result's. -/
structure CfR (w : World) (p : Nat) (A : Option Addr) (c : Nat) (L : List Int) (r q i : Nat) (T : TypeId) (n : Nat) (z d : Nat → Value) (W : World) : Prop where
  sz : w.heap.size = r
  rd : RdIs W p A c L i
  on : Only (onlyP p) w W
  lt : p < r
  res : Row W r T n z
  row : Row W q T n d
  low : r < q
section
variable {w W W' : World} {p c r q i j n : Nat} {A : Option Addr} {L : List Int} {d z : Nat → Value} {T : TypeId}
theorem Rd0.call (h : Rd0 w p A c L r i T n z W) (hr : RdIs W' p A c L j) (ho : Only (onlyP p) W W') : Rd0 w p A c L r j T n z W' :=
  ⟨h.sz, hr, h.on.trans ho, h.lt, h.res.only ho (by have := h.lt; unfold onlyP; omega)⟩
theorem Rd0.keep (h : Rd0 w p A c L r i T n z W) (hb : Below W.heap.size W W') : Rd0 w p A c L r i T n z W' := h.call (h.rd.keep hb) (only_below hb _)
theorem rd0_new (h : RdIs w p A c L i) (cs : Array Value) (hz : cs = rowOf n z) : Rd0 w p A c L w.heap.size i T n z (w.alloc (.cells cs T)) := by
  have hb : Below w.heap.size w (w.alloc (.cells cs T)) := (Below.refl _ _).alloc (Nat.le_refl _) _
  exact ⟨rfl, h.keep hb, only_below hb _, h.blk.lt, Row.new _ _ _ _ _ hz⟩
theorem Rd0.new (h : Rd0 w p A c L r i T n z W) (cs : Array Value) (hd : cs = rowOf n d) : CfR w p A c L r W.heap.size i T n z d (W.alloc (.cells cs T)) := by
  have hb : Below W.heap.size W (W.alloc (.cells cs T)) := (Below.refl _ _).alloc (Nat.le_refl _) _
  exact ⟨h.sz, h.rd.keep hb, h.on.then hb, h.lt, h.res.keep hb, Row.new _ _ _ _ _ hd, h.res.lt⟩
theorem CfR.call (h : CfR w p A c L r q i T n z d W) (hr : RdIs W' p A c L j) (ho : Only (onlyP p) W W') : CfR w p A c L r q j T n z d W' :=
  ⟨h.sz, hr, h.on.trans ho, h.lt, h.res.only ho (by have := h.lt; unfold onlyP; omega), h.row.only ho (by have := h.lt; have := h.low; unfold onlyP; omega), h.low⟩
theorem CfR.keep (h : CfR w p A c L r q i T n z d W) (hb : Below W.heap.size W W') : CfR w p A c L r q i T n z d W' := h.call (h.rd.keep hb) (only_below hb _)
theorem CfR.set_ (h : CfR w p A c L r q i T n z d W) (k : Nat) (x : Value) : CfR w p A c L r q i T n z (fun j => if j = k then x else d j) (W.setCell ⟨q, k, none⟩ x) := by
  have h1 := h.lt; have h2 := h.low; have h3 := h.sz
  have hb : Below q W (W.setCell ⟨q, k, none⟩ x) := (Below.refl _ _).setCell (p := ⟨q, k, none⟩) (Nat.le_refl _) _
  exact ⟨h.sz, h.rd.past hb (by omega), h.on.past (hb.mono (by omega)), h.lt, h.res.far (p := ⟨q, k, none⟩) (by show r ≠ q; omega) _, h.row.set_ k x, h.low⟩
theorem CfR.congr {d' : Nat → Value} (h : CfR w p A c L r q i T n z d W) (he : ∀ k, k < n → d k = d' k) : CfR w p A c L r q i T n z d' W :=
  ⟨h.sz, h.rd, h.on, h.lt, h.res, h.row.congr he, h.low⟩
/-- The result is stored. -/
theorem CfR.fin (h : CfR w p A c L r q i T n z d W) (G : Nat → Value) : RdIs (W.setRow r (rowOf n G)) p A c L i ∧ Only (onlyP p) w (W.setRow r (rowOf n G)) ∧ Row (W.setRow r (rowOf n G)) r T n G := by
  have hb : Below r W (W.setRow r (rowOf n G)) := below_setRow_ (Below.refl _ _) (Nat.le_refl _) _
  exact ⟨h.rd.past hb h.lt, h.on.past (hb.mono (Nat.le_of_eq h.sz)), h.res.setRow_ G⟩
end
/-- What is read of a configuration so far. -/
def cfUp (L : List Int) (n : Nat) : Nat → Int := fun i => if i < n then takeC L i else 0
theorem cfUp_set (L : List Int) (n : Nat) (x : Int) (hx : takeC L n = x) : ∀ k, k < 14 → (if k = n then Value.int .i64 x else ints (cfUp L n) k) = ints (cfUp L (n + 1)) k := fun k _ => by
  unfold ints cfUp
  by_cases e : k = n
  · subst e; rw [if_pos rfl, if_pos (by omega), hx]
  · rw [if_neg e]
    by_cases h : k < n
    · rw [if_pos h, if_pos (by omega)]
    · rw [if_neg h, if_neg (by omega)]
/-- The code of the bytes of a configuration. -/
def confK (L : List Int) : Int := if L.length < 16 then 4 else if mayB (takeC L) = false then 2 else 0
/-- What a panic of the reader's does: a code is told. -/
def Ends (p : Nat) (w : World) (e : Ending) (w' : World) (k : Int) : Prop := k ≠ 0 ∧ ∃ u, e = .panicked [{ v := u, recovered := false }] ∧ PanV w' u k ∧ Only (onlyP p) w w'
theorem ends_soon {p : Nat} {n : Nat} {w W W' : World} (h : Only (onlyP p) w W) (ho : Only (onlyP p) W W') (hn : n ≤ 2000000) : Ends p w (.panicked [{ v := .iface 71 (.int .i64 n), recovered := false }]) W' 4 :=
  ⟨by decide, _, rfl, .inl ⟨rfl, n, hn, rfl⟩, h.trans ho⟩
def RdConf (p : Nat) (A : Option Addr) (c : Nat) (L : List Int) (w : World) (e : Ending) (w' : World) : Prop :=
  (confK L = 0 ∧ e = .returned (.agg (rowOf 14 (ints (takeC L)))) ∧ RdIs w' p A c L 16 ∧ 16 ≤ L.length ∧ Only (onlyP p) w w') ∨ Ends p w e w' (confK L)
/-- Three bytes that make a number. -/
theorem rd3 {L : List Int} (h : Byt L) (i : Nat) : IntKind.i64.wrap ((rdT L i 3 : Nat) : Int) = atN L i 3 3 := by
  have h1 := rdT_int h i 3
  have h2 := rdN_bound h i 3
  rw [show (256 : Int) ^ 3 = 16777216 from rfl] at h2
  rw [← rdN_all, h1, IntKind.wrap_i64]
  omega
theorem takeC_lo {L : List Int} {i : Nat} (h : i < 12) : takeC L i = byN L i := if_pos h
set_option maxRecDepth 100000 in
set_option maxHeartbeats 4000000 in
theorem rConf_any {p : Nat} {A : Option Addr} {c : Nat} {L : List Int} (hB : Byt L) (hl : L.length ≤ 2000000) (w : World) (h : RdIs w p A c L 0) :
    Calls Tryd.prog 56 #[.pointer (some ⟨p, 0, none⟩)] w (RdConf p A c L w) := by
  have HBY := Lib.hid hB
  have HK4 : Hid (L.length < 16 → confK L = 4) := Lib.hid fun h => if_pos h
  have H0 := Lib.hid fun cs hz => rd0_new (T := 24) (n := 14) (z := ints fun _ => 0) h cs hz
  have HN : Hid (0 ≤ L.length) := Lib.hid (Nat.zero_le _)
  clear h hB
  go_enter Tryd.func56, Tryd.ntmps56
  go_upto_region 1 with fail
  generalize hW : World.alloc _ _ = W
  have HR := Lib.hid (show Rd0 w p A c L w.heap.size 0 24 14 (ints fun _ => 0) W from hW ▸ H0.out _ rfl)
  clear hW H0
  generalize hg : w.heap.size = g at *
  have HG := Lib.hid hg; clear hg
  go_upto_region 2 with (go_at_call 70; refine (rSmall_any HBY.out hl HN.out _ HR.out.rd).mono ?_; rintro e w2 (⟨ha, rfl, hb, hc⟩ | ⟨ha, rfl, hc⟩); (case inr => refine And.intro rfl (Or.inr ?_); rw [HK4.out (by omega)]; exact ends_soon HR.out.on hc hl); have HR := Lib.hid (HR.out.call hb hc); clear hb hc; have HN := Lib.hid ha; clear ha)
  generalize hW2 : World.alloc _ _ = W2
  have HR2 := Lib.hid (show CfR w p A c L g w2.heap.size 2 24 14 (ints fun _ => 0) (ints (cfUp L 2)) W2 from hW2 ▸ HR.out.new _ rfl)
  clear hW2 HR
  generalize w2.heap.size = q at *
  have HR := HR2
  go_wp2_with fail
  go_loopw [10] (fun i wr => ∃ t : Nat, i = .int .i64 t ∧ t ≤ 8 ∧ 2 + t ≤ L.length ∧ CfR w p A c L g q (2 + t) 24 14 (ints fun _ => 0) (ints (cfUp L (2 + t))) wr) (fun i _ => 8 - (intOf i).toNat)
  case atStart => exact ⟨0, rfl, Nat.zero_le _, HN.out, HR.out⟩
  case round =>
    clear HR HR2
    obtain ⟨t, rfl, ht, hn, hr⟩ := hrel
    have HN := Lib.hid hn; have HR := Lib.hid hr
    clear hn hr
    by_cases hlt : t < 8
    · have h8 : (t : Int) < 8 := by omega
      obtain ⟨n0, hn0⟩ : ∃ n0, n0 = 2 + t := ⟨_, rfl⟩
      have HI0 : Hid (n0 < 14) := Lib.hid (by omega)
      have HN0 := Lib.hid hn0
      go_upto_region 6 with ((go_at_call 70; refine (rSmall_any HBY.out hl HN.out _ HR.out.rd).mono ?_; rintro e w2 (⟨ha, rfl, hb, hc⟩ | ⟨ha, rfl, hc⟩); (case inr => refine And.intro rfl (Or.inr ?_); rw [HK4.out (by omega)]; exact ends_soon HR.out.on hc hl); have HR := Lib.hid (HR.out.call hb hc); clear hb hc; have HN := Lib.hid ha; clear ha); have p0 := HR.out.row.cell (i := n0) HI0.out; have f0 := HR.out.row.frozen n0; rw [HN0.out] at p0 f0)
      go_wp2_with fail
      go_roundw
      case rel => exact ⟨t + 1, by go_num, by omega, HN.out, (HR.out.set_ (2 + t) (.int .i64 (byN L (2 + t)))).congr (cfUp_set L (2 + t) _ (takeC_lo (by omega)))⟩
      case measure => simp [intOf]; omega
    · obtain rfl : t = 8 := by omega
      rw [show ((8 : Nat) : Int) = 8 from rfl]
      go_upto_region 8 with ((go_at_call 70; refine (rSmall_any HBY.out hl HN.out _ HR.out.rd).mono ?_; rintro e w2 (⟨ha, rfl, hb, hc⟩ | ⟨ha, rfl, hc⟩); (case inr => refine And.intro rfl (Or.inr ?_); rw [HK4.out (by omega)]; exact ends_soon HR.out.on hc hl); have HR := Lib.hid (HR.out.call hb hc); clear hb hc; have HN := Lib.hid ha; clear ha); have p0 := HR.out.row.cell (i := 10) (by omega); have f0 := HR.out.row.frozen 10; have p1 := HR.out.row.cell (i := 11) (by omega); have f1 := HR.out.row.frozen 11)
      generalize hW3 : World.setCell _ _ _ = W3
      have HR3 : Hid (CfR w p A c L g q 12 24 14 (ints fun _ => 0) (ints (cfUp L 12)) W3) := Lib.hid (by
        rw [← hW3]
        exact (((HR.out.set_ 10 (.int .i64 (byN L 10))).congr (cfUp_set L 10 _ (takeC_lo (by omega)))).set_ 11 (.int .i64 (byN L 11))).congr (cfUp_set L 11 _ (takeC_lo (by omega))))
      clear hW3 p0 f0 p1 f1 HR
      have h3 := rd3 HBY.out 12
      go_upto_region 9 with (go_at_call 71; refine (rNumber_any HBY.out hl HN.out 3 (by omega) _ HR3.out.rd).mono ?_; rintro e w4 (⟨ha, rfl, hb, hc⟩ | ⟨ha, rfl, hc⟩); (case inr => refine And.intro rfl (Or.inr ?_); rw [HK4.out (by omega)]; exact ends_soon HR3.out.on hc hl); have HR := Lib.hid (HR3.out.call hb hc); clear hb hc; have HN := Lib.hid ha; clear ha; have p0 := HR.out.row.cell (i := 12) (by omega); have f0 := HR.out.row.frozen 12)
      generalize hW4 : World.setCell _ _ _ = W4
      have HR4 : Hid (CfR w p A c L g q 15 24 14 (ints fun _ => 0) (ints (cfUp L 13)) W4) := Lib.hid (by
        rw [← hW4]
        exact (HR.out.set_ 12 (.int .i64 (atN L 12 3 3))).congr (cfUp_set L 12 _ rfl))
      clear hW4 p0 f0 HR h3
      have HR := HR4
      go_upto_region 10 with ((go_at_call 70; refine (rSmall_any HBY.out hl HN.out _ HR.out.rd).mono ?_; rintro e w2 (⟨ha, rfl, hb, hc⟩ | ⟨ha, rfl, hc⟩); (case inr => refine And.intro rfl (Or.inr ?_); rw [HK4.out (by omega)]; exact ends_soon HR.out.on hc hl); have HR := Lib.hid (HR.out.call hb hc); clear hb hc; have HN := Lib.hid ha; clear ha); have p0 := HR.out.row.cell (i := 13) (by omega); have f0 := HR.out.row.frozen 13)
      generalize hW5 : World.setCell _ _ _ = W5
      have HR5 : Hid (CfR w p A c L g q 16 24 14 (ints fun _ => 0) (ints (takeC L)) W5) := Lib.hid (by
        rw [← hW5]
        refine ((HR.out.set_ 13 (.int .i64 (byN L 15))).congr (cfUp_set L 13 _ rfl)).congr fun k hk => ?_
        unfold ints cfUp
        rw [if_pos hk])
      clear hW5 p0 f0 HR HR4
      have hf := fold14I (takeC L)
      have hro := HR5.out.row
      have CM := Lib.hid (fun W => cMay_any (takeC L) (takeC_ok HBY.out) W)
      have HN16 : Hid (16 ≤ L.length) := HN
      have HKM : Hid (confK L = if mayB (takeC L) = false then 2 else 0) := Lib.hid (if_neg (by have := HN16.out; omega))
      cases hm : mayB (takeC L)
      · rw [hm] at CM HKM
        have HK2 : Hid (confK L = 2) := Lib.hid HKM.out
        go_wp2_with (first | (refine wpList_load_row rfl 24 _ rfl q rfl 24 (rowOf 14 (ints (takeC L))) (0, 0) _ hro Tryd.underlying24 rfl (by kernel_rfl) ?_) | (go_at_call 20; refine (CM.out _).mono ?_; rintro e w6 ⟨rfl, hb⟩; have HR := Lib.hid (HR5.out.keep hb); clear hb) | (go_at_call 59; refine (rRefuse_any hl HN16.out 2 (by decide) (by decide) _ HR.out.rd).mono ?_; rintro e w7 ⟨u, rfl, hu, hb⟩; have HU := Lib.hid hu; have HO := Lib.hid (HR.out.on.then hb); clear hu hb))
        exact ⟨rfl, .inr (by rw [HK2.out]; exact ⟨by decide, u, rfl, HU.out, HO.out⟩)⟩
      · rw [hm] at CM HKM
        have HK0 : Hid (confK L = 0) := Lib.hid HKM.out
        go_upto_region 12 with (first | (refine wpList_load_row rfl 24 _ rfl q rfl 24 (rowOf 14 (ints (takeC L))) (0, 0) _ hro Tryd.underlying24 rfl (by kernel_rfl) ?_) | (go_at_call 20; refine (CM.out _).mono ?_; rintro e w6 ⟨rfl, hb⟩; have HR := Lib.hid (HR5.out.keep hb); clear hb))
        have hro2 := HR.out.row
        have hre2 := HR.out.res
        go_wp2_with (first | (refine wpList_load_row rfl 24 _ rfl q rfl 24 (rowOf 14 (ints (takeC L))) (0, 0) _ hro2 Tryd.underlying24 rfl (by kernel_rfl) ?_) | (refine wpList_store_row rfl 24 _ _ rfl g (rowOf 14 (ints (takeC L))) rfl rfl 24 (rowOf 14 (ints fun _ => 0)) hre2 (by kernel_rfl) rfl (ints_one _ _) ?_))
        obtain ⟨h1, h2, h3⟩ := HR.out.fin (ints (takeC L))
        exact bodyPost_ret (results_cell_row (p := 2) (ty := 24) (by kernel_rfl) _ _ g 24 (rowOf 14 (ints (takeC L))) (0, 0) _ rfl h3 Tryd.underlying24 rfl (by kernel_rfl)) rfl (.inl ⟨HK0.out, rfl, h1, HN16.out, h2⟩)
end Go.Proofs.YtdbankogamolcaaDoor
namespace Go.Proofs.YtdbankogamolcaaDoor
set_option linter.unusedSimpArgs false
set_option linter.unusedVariables false
set_option linter.unusedSimpArgs false
open Go.ChangeShapes Go.WideShapes Go.ChangeAt Go.RowKit

/-- Is there a thread, of a configuration that may be? -/
def thereB (c : Nat → Int) (t : Int) : Bool := decide (0 ≤ t) && decide (t < c 1)
set_option maxRecDepth 100000 in
theorem sThere_any (c : Nat → Int) (t : Int) (w : World) : Calls Tryd.prog 44 #[.agg (rowOf 14 (ints c)), .int .i64 t] w fun e w' => e = .returned (.bool (thereB c t)) ∧ Below w.heap.size w w' := by
  have HX : Hid (thereB c t = (decide (0 ≤ t) && decide (t < c 1))) := Lib.hid rfl
  go_enter Tryd.func44, Tryd.ntmps44
  go_upto_region 1 with fail
  generalize hW : World.alloc _ _ = W
  have hr : Row W w.heap.size 24 14 (ints c) := by rw [← hW]; exact Row.new _ _ _ _ _ rfl
  have hB : Below w.heap.size w W := by rw [← hW]; exact (Below.refl _ _).alloc (Nat.le_refl _) _
  clear hW
  generalize hz : w.heap.size = a1 at *
  have HZ := Lib.hid hz; clear hz
  have u1 := hr.cell (i := 1) (by omega)
  change W.cell? ⟨a1, 1, none⟩ = some (.int .i64 (c 1)) at u1
  have HB := Lib.hid hB
  clear hr hB
  generalize c 1 = m at *
  by_cases h0 : 0 ≤ t
  · rw [decide_eq_true h0, Bool.true_and] at HX
    go_wp2_with fail
    go_ret
    exact ⟨by rw [HX.out]; rfl, by rw [HZ.out]; exact HB.out⟩
  · rw [decide_eq_false h0, Bool.false_and] at HX
    go_wp2_with fail
    go_ret
    exact ⟨by rw [HX.out]; rfl, by rw [HZ.out]; exact HB.out⟩
/-- The code of an entry's byte. -/
def entK (L : List Int) (thr : Int) (i : Nat) : Int := if 31 < byN L i ∨ thr ≤ byN L i % 8 then 3 else 0
def takeE (L : List Int) (i : Nat) : Ent := ⟨byN L i % 8, byN L i / 8⟩
def RdEnt (p : Nat) (A : Option Addr) (c : Nat) (L : List Int) (thr : Int) (i : Nat) (w : World) (e : Ending) (w' : World) : Prop :=
  (entK L thr i = 0 ∧ e = .returned (.agg (entF (takeE L i)).toArray) ∧ RdIs w' p A c L (i + 1) ∧ i + 1 ≤ L.length ∧ Only (onlyP p) w w') ∨ Ends p w e w' (entK L thr i)
def eF (x : Ent) : Nat → Value := fun i => (entF x).getD i undef
theorem eF_one (x : Ent) : (rowOf 2 (eF x)).all (·.oneCell') = true := by
  show (entF x).toArray.all (·.oneCell') = true
  simp [entF, Value.oneCell']
theorem two_ent {w : World} {p : Nat} {A : Option Addr} {c : Nat} {L : List Int} {j : Nat} (cc : Nat → Int) (h : RdIs w p A c L j) (cs : Array Value) (hz : cs = rowOf 2 (eF ⟨0, 0⟩)) :
    Rd0 (w.alloc (.cells (rowOf 14 (ints cc)) 24)) p A c L (w.heap.size + 1) j 51 2 (eF ⟨0, 0⟩) ((w.alloc (.cells (rowOf 14 (ints cc)) 24)).alloc (.cells cs 51)) ∧
    Row ((w.alloc (.cells (rowOf 14 (ints cc)) 24)).alloc (.cells cs 51)) w.heap.size 24 14 (ints cc) ∧ Below w.heap.size w (w.alloc (.cells (rowOf 14 (ints cc)) 24)) := by
  have hb : Below w.heap.size w (w.alloc (.cells (rowOf 14 (ints cc)) 24)) := (Below.refl _ _).alloc (Nat.le_refl _) _
  have h1 := rd0_new (T := 51) (n := 2) (z := eF ⟨0, 0⟩) (h.keep hb) cs hz
  rw [World.size_alloc] at h1
  exact ⟨h1, (Row.new w _ _ _ _ rfl).alloc _, hb⟩
set_option maxRecDepth 100000 in
set_option maxHeartbeats 4000000 in
theorem rEntry_any {p : Nat} {A : Option Addr} {c : Nat} {L : List Int} {j : Nat} (cc : Nat → Int) (hB : Byt L) (hl : L.length ≤ 2000000) (hj : j < L.length) (w : World) (h : RdIs w p A c L j) :
    Calls Tryd.prog 60 #[.pointer (some ⟨p, 0, none⟩), .agg (rowOf 14 (ints cc))] w (RdEnt p A c L (cc 1) j w) := by
  have HBY := Lib.hid hB
  have H0 := Lib.hid fun cs hz => two_ent cc h cs hz
  have HJ := Lib.hid hj
  have HP := Lib.hid h.blk.lt
  clear h hB hj
  go_enter Tryd.func60, Tryd.ntmps60
  go_upto_region 1 with fail
  generalize hW : World.alloc (World.alloc _ _) _ = W
  obtain ⟨hr0, hc0, hb0⟩ : _ ∧ Row W w.heap.size 24 14 (ints cc) ∧ _ := hW ▸ H0.out _ rfl
  have HR := Lib.hid hr0
  have HC := Lib.hid hc0
  have HBW := Lib.hid (only_below hb0 (onlyP p))
  clear hW hr0 hc0 hb0 H0
  generalize w.alloc (.cells (rowOf 14 (ints cc)) 24) = w1 at *
  generalize hg : w.heap.size = g at *
  have HG := Lib.hid hg; clear hg
  have hjl : j + 1 ≤ L.length := HJ.out
  go_upto_region 2 with (go_at_call 71; refine (rNumber_any HBY.out hl (Nat.le_of_lt HJ.out) 1 (by omega) _ HR.out.rd).mono ?_; rintro e w2 (⟨ha, rfl, hb, hc⟩ | ⟨ha, rfl, hc⟩); (case inr => exact absurd ha (by omega)); have HR := Lib.hid (HR.out.call hb hc); have HC := Lib.hid (HC.out.only hc (by have := HP.out; unfold onlyP; omega)); clear hb hc ha)
  have hy1 := rdT_one HBY.out j
  have hy := byN_bound HBY.out j
  have hyt := byT_int HBY.out j
  rw [hy1]
  have hyl : byT L j < 256 := by omega
  obtain ⟨k1, k2, k3⟩ := ent_cut hyl
  have C1 := Lib.hid (fun W => fCut_any (byT L j) (by omega) 0 3 (by decide) (by decide) W)
  have C2 := Lib.hid (fun W => fCut_any (byT L j) (by omega) 3 2 (by decide) (by decide) W)
  have C3 := Lib.hid (fun W => fCut_any (byT L j) (by omega) 5 3 (by decide) (by decide) W)
  rw [k1] at C1
  rw [k2] at C2
  rw [k3] at C3
  have HK3 : Hid (31 < byT L j → entK L (cc 1) j = 3) := Lib.hid fun h => if_pos (.inl (by omega))
  have HK3b : Hid (byT L j ≤ 31 → thereB cc ((byT L j % 8 : Nat) : Int) = false → entK L (cc 1) j = 3) := Lib.hid fun h h2 => if_pos (.inr (by
    unfold thereB at h2
    rw [decide_eq_true (by omega), Bool.true_and] at h2
    have := of_decide_eq_false h2
    omega))
  have HK0 : Hid (byT L j ≤ 31 → thereB cc ((byT L j % 8 : Nat) : Int) = true → entK L (cc 1) j = 0) := Lib.hid fun h h2 => if_neg (by
    unfold thereB at h2
    rw [Bool.and_eq_true] at h2
    have := of_decide_eq_true h2.2
    omega)
  have HV : Hid (byT L j ≤ 31 → eF ⟨((byT L j % 8 : Nat) : Int), ((byT L j / 8 % 4 : Nat) : Int)⟩ = eF (takeE L j)) := Lib.hid fun h => by
    unfold takeE
    rw [← hyt]
    congr 2
    omega
  clear hy hyt k1 k2 k3 hy1
  generalize byT L j = y at *
  have a1 : IntKind.i64.wrap ((y % 8 : Nat) : Int) = ((y % 8 : Nat) : Int) := by rw [IntKind.wrap_i64]; omega
  have a2 : IntKind.i64.wrap ((y / 8 % 4 : Nat) : Int) = ((y / 8 % 4 : Nat) : Int) := by rw [IntKind.wrap_i64]; omega
  have HL : Hid (y ≤ 31 → y / 32 = 0) := Lib.hid (by omega)
  have HM : Hid (31 < y → 0 < y / 32) := Lib.hid (by omega)
  have CT := Lib.hid (fun W => sThere_any cc ((y % 8 : Nat) : Int) W)
  generalize y % 8 = v1 at *
  generalize y / 8 % 4 = v2 at *
  generalize y / 32 = v3 at *
  go_upto_region 3 with (first | (go_at_call 67; with_reducible refine (C1.out _).mono ?_; rintro e w3 ⟨rfl, rfl⟩) | (go_at_call 67; with_reducible refine (C2.out _).mono ?_; rintro e w3 ⟨rfl, rfl⟩))
  generalize hW3 : World.alloc _ _ = W3
  have HR3 := Lib.hid (show CfR w1 p A c L (g + 1) w2.heap.size (j + 1) 51 2 (eF ⟨0, 0⟩) (eF ⟨v1, v2⟩) W3 from hW3 ▸ HR.out.new (d := eF ⟨v1, v2⟩) _ rfl)
  have HC3 := Lib.hid (show Row W3 g 24 14 (ints cc) from hW3 ▸ HC.out.alloc _)
  clear hW3 HR HC C1 C2
  generalize w2.heap.size = q at *
  have hrow := HR3.out.row
  have p0 := hrow.cell (i := 0) (by omega)
  change W3.cell? ⟨q, 0, none⟩ = some (.int .i64 v1) at p0
  clear hrow
  by_cases h31 : 31 < y
  · have h0 : 0 < v3 := HM.out h31
    have HKK := Lib.hid (HK3.out h31)
    go_wp2_with (first | (go_at_call 67; with_reducible refine (C3.out _).mono ?_; rintro e w3 ⟨rfl, rfl⟩) | (go_at_call 59; refine (rRefuse_any hl hjl 3 (by decide) (by decide) _ HR3.out.rd).mono ?_; rintro e w7 ⟨u, rfl, hu, hb⟩; have HU := Lib.hid hu; have HO := Lib.hid (HBW.out.trans (HR3.out.on.then hb)); clear hu hb))
    exact ⟨rfl, .inr (by rw [HKK.out]; exact ⟨by decide, u, rfl, HU.out, HO.out⟩)⟩
  · obtain rfl : v3 = 0 := HL.out (by omega)
    have HKb := Lib.hid (HK3b.out (by omega)); have HKa := Lib.hid (HK0.out (by omega)); have HVV := Lib.hid (HV.out (by omega))
    clear HK3 HK3b HK0 HV
    generalize thereB cc v1 = tb at *
    have hf := fold14I cc
    cases tb
    · have HKK := Lib.hid (HKb.out rfl)
      go_wp2_with (first | (go_at_call 67; with_reducible refine (C3.out _).mono ?_; rintro e w3 ⟨rfl, rfl⟩) | (refine wpList_load_midG (by rfl) 24 _ rfl g 0 rfl ((List.range 14).map (ints cc)) _ HC3.out.range0 Tryd.underlying24 rfl (by kernel_rfl) ?_) | (go_at_call 44; with_reducible refine (CT.out _).mono ?_; rintro e w4 ⟨rfl, hb⟩; have HR := Lib.hid (HR3.out.keep hb); clear hb) | (go_at_call 59; refine (rRefuse_any hl hjl 3 (by decide) (by decide) _ HR.out.rd).mono ?_; rintro e w7 ⟨u, rfl, hu, hb⟩; have HU := Lib.hid hu; have HO := Lib.hid (HBW.out.trans (HR.out.on.then hb)); clear hu hb))
      exact ⟨rfl, .inr (by rw [HKK.out]; exact ⟨by decide, u, rfl, HU.out, HO.out⟩)⟩
    · have HKK := Lib.hid (HKa.out rfl)
      go_upto_region 5 with (first | (go_at_call 67; with_reducible refine (C3.out _).mono ?_; rintro e w3 ⟨rfl, rfl⟩) | (refine wpList_load_midG (by rfl) 24 _ rfl g 0 rfl ((List.range 14).map (ints cc)) _ HC3.out.range0 Tryd.underlying24 rfl (by kernel_rfl) ?_) | (go_at_call 44; with_reducible refine (CT.out _).mono ?_; rintro e w4 ⟨rfl, hb⟩; have HR := Lib.hid (HR3.out.keep hb); clear hb))
      have hro2 := HR.out.row
      have hre2 := HR.out.res
      go_wp2_with (first | (refine wpList_load_row rfl 51 _ rfl q rfl 51 (rowOf 2 (eF ⟨v1, v2⟩)) (0, 0) _ hro2 Tryd.underlying51 rfl (by kernel_rfl) ?_) | (refine wpList_store_row rfl 51 _ _ rfl (g + 1) (rowOf 2 (eF ⟨v1, v2⟩)) rfl rfl 51 (rowOf 2 (eF ⟨0, 0⟩)) hre2 (by kernel_rfl) rfl (eF_one _) ?_))
      obtain ⟨h1, h2, h3⟩ := HR.out.fin (eF ⟨v1, v2⟩)
      refine bodyPost_ret (results_cell_row (p := 4) (ty := 51) (by kernel_rfl) _ _ (g + 1) 51 (rowOf 2 (eF ⟨v1, v2⟩)) (0, 0) _ rfl h3 Tryd.underlying51 rfl (by kernel_rfl)) rfl (.inl ⟨HKK.out, ?_, h1, hjl, HBW.out.trans h2⟩)
      rw [HVV.out]
      rfl
end Go.Proofs.YtdbankogamolcaaDoor
namespace Go.Proofs.YtdbankogamolcaaDoor
set_option linter.unusedSimpArgs false
set_option linter.unusedVariables false
set_option linter.unusedSimpArgs false
open Go.ChangeShapes Go.WideShapes Go.ChangeAt Go.RowKit

theorem new_of (t l : Int) (s : List UInt8) (c : Int) (w : World) (hc : c ≠ 0) (bt : -9223372036854775808 ≤ t ∧ t ≤ 9223372036854775807) (bl : -9223372036854775808 ≤ l ∧ l ≤ 9223372036854775807) (bc : -9223372036854775808 ≤ c ∧ c ≤ 9223372036854775807) (hs : s.length ≤ 200) :
    Calls Tryd.prog 45 #[.int .i64 t, .int .i64 l, .string (sB s), .int .i64 c] w fun r w' => ∃ v, r = .returned v ∧ ErrOf w' v c ∧ Below w.heap.size w w' := by
  refine (new_any t l s c w hc bt bl bc hs).mono ?_
  rintro r w' ⟨h1, h2, h3⟩
  exact ⟨_, h1, ⟨_, rfl, h2, rfl, by simp [hc]⟩, h3⟩
theorem note_of (s : List UInt8) (c : Int) (w : World) (hc : c ≠ 0) (bc : -9223372036854775808 ≤ c ∧ c ≤ 9223372036854775807) (hs : s.length ≤ 200) :
    Calls Tryd.prog 21 #[.string (sB s), .iface 35 (.int .i64 c)] w fun r w' => ∃ v, r = .returned v ∧ ErrOf w' v c ∧ Below w.heap.size w w' := by
  refine (note_any s (.code c) w (by simp) bc hs).mono ?_
  rintro r w' ⟨h1, h2, h3⟩
  exact ⟨_, h1, ⟨_, rfl, h2, rfl, by simp [hc]⟩, h3⟩
theorem errOf_no (w : World) : ErrOf w .nilIface 0 := ⟨.no, rfl, trivial, rfl, by simp⟩
theorem lvl_there {c : Nat → Int} (hm : mayB c = true) (t : Int) : decide (lvl c t < 0) = !thereB c t := by
  unfold thereB
  by_cases h : 0 ≤ t ∧ t < c 1
  · rcases lvl_bounds c t with ⟨_, h5⟩ | ⟨h5, _⟩
    · exact absurd ⟨hm, h.1, h.2⟩ h5
    · rw [decide_eq_false (by omega), decide_eq_true h.1, decide_eq_true h.2]; rfl
  · rw [lvl_no (by rintro ⟨_, h1, h2⟩; exact h ⟨h1, h2⟩)]
    by_cases h0 : 0 ≤ t
    · rw [decide_eq_true h0, decide_eq_false (show ¬ t < c 1 by omega)]; rfl
    · rw [decide_eq_false h0]; rfl
theorem prog_at (f : Nat → Value) (k : Nat) (hk : k < 8) (w : World) : (Instr.index 26 (.agg #[f 14, f 15, f 16, f 17, f 18, f 19, f 20, f 21]) (.int .i64 k)).run Tryd.prog w = .ok (f (14 + k)) w :=
  match k, hk with
  | 0, _ | 1, _ | 2, _ | 3, _ | 4, _ | 5, _ | 6, _ | 7, _ => by kernel_rfl
theorem ScrAt.progR {g : Nat} {f : Nat → Value} {s : Scr} {w : World} (h : ScrAt g f s w) : w.rangeAt g 14 [f 14, f 15, f 16, f 17, f 18, f 19, f 20, f 21] := fun j v hj => by
  have hl : j < 8 := (List.getElem?_eq_some_iff.1 hj).1
  rw [h.row.cell (by omega)]
  match j, hl, hj with
  | 0, _, hj | 1, _, hj | 2, _, hj | 3, _, hj | 4, _, hj | 5, _, hj | 6, _, hj | 7, _, hj => exact hj
set_option maxRecDepth 100000 in
set_option maxHeartbeats 8000000 in
theorem sNobody_any (f : Nat → Value) (s : Scr) (hl : LimS s) (hm : mayB s.c = true) (w : World) (hs : ScrIs w f s) :
    Calls Tryd.prog 22 #[.agg (rowOf 23 f)] w fun e w' => ∃ v, e = .returned v ∧ ErrOf w' v (bif argB s then 1 else 0) ∧ Below w.heap.size w w' := by
  have HT := Lib.hid (scr_new hs)
  have hf1 := fold14I s.c
  have CT := Lib.hid (fun t W => sThere_any s.c t W)
  have CN1 : Hid (∀ (t : Int), (-9223372036854775808 ≤ t ∧ t ≤ 9223372036854775807) → ∀ W, Calls Tryd.prog 45 #[.int .i64 t, .int .i64 (-1), .string ⟨#[112, 114, 111, 103, 114, 97, 109]⟩, .int .i64 1] W fun r w' => ∃ v, r = .returned v ∧ ErrOf w' v 1 ∧ Below W.heap.size W w') := Lib.hid fun t ht W => new_of t (-1) [112, 114, 111, 103, 114, 97, 109] 1 W (by decide) ht (by decide) (by decide) (by decide)
  have CN2 : Hid (∀ (t : Int), (-9223372036854775808 ≤ t ∧ t ≤ 9223372036854775807) → ∀ W, Calls Tryd.prog 45 #[.int .i64 t, .int .i64 (-1), .string ⟨#[101, 110, 116, 114, 121]⟩, .int .i64 1] W fun r w' => ∃ v, r = .returned v ∧ ErrOf w' v 1 ∧ Below W.heap.size W w') := Lib.hid fun t ht W => new_of t (-1) [101, 110, 116, 114, 121] 1 W (by decide) ht (by decide) (by decide) (by decide)
  have HTH : Hid (∀ i, i < s.e.length → -9223372036854775808 ≤ (enN s.e i).th ∧ (enN s.e i).th ≤ 9223372036854775807) := Lib.hid fun i hi => (hl.en i hi).1
  have HLV := Lib.hid (fun t => lvl_there hm t)
  have hel := hl.el
  clear hs
  go_enter Tryd.func22, Tryd.ntmps22
  go_upto_region 1 with fail
  generalize hW : World.alloc _ _ = W
  have hr : RgtR w.heap.size f s w W := by
    obtain ⟨h1, h2⟩ := HT.out W hW
    exact ⟨h1, h2⟩
  clear hW HT
  generalize hg : w.heap.size = g at *
  have HG := Lib.hid hg; clear hg
  have HR := Lib.hid hr; clear hr
  go_upto_region 2 with (refine wpList_load_mid rfl 26 _ rfl g 14 rfl [f 14, f 15, f 16, f 17, f 18, f 19, f 20, f 21] _ HR.out.at_.progR Tryd.underlying26 rfl (by kernel_rfl) ?_)
  go_loopw [9] (fun v wr => ∃ t : Nat, v = .int .i64 t ∧ t ≤ 8 ∧ RgtR g f s w wr ∧ ∀ i, i < t → argP s i = false) (fun v _ => 8 - (intOf v).toNat)
  case atStart => exact ⟨0, rfl, Nat.zero_le _, HR.out, fun i hi => by omega⟩
  case round =>
    clear HR
    obtain ⟨t, rfl, ht, hr, he⟩ := hrel
    have HR := Lib.hid hr
    have HE := Lib.hid he
    clear hr he
    by_cases hlt : t < 8
    · have h8 : (t : Int) < 8 := by omega
      obtain ⟨A3, c3, hv, -⟩ := HR.out.at_.scr.prog t hlt
      have hix := fun W => prog_at f t hlt W
      rw [hv] at hix
      have HAt : Hid (argP s t = ((!thereB s.c t) && decide (0 < (s.p t).length))) := Lib.hid (by unfold argP; rw [HLV.out])
      have HEt : Hid (argP s t = false → ∀ i, i < t + 1 → argP s i = false) := Lib.hid fun h i hi => by
        rcases Nat.lt_or_ge i t with h2 | h2
        · exact HE.out i h2
        · obtain rfl : i = t := by omega
          exact h
      have HFt : Hid (argP s t = true → (bif argB s then (1 : Int) else 0) = 1) := Lib.hid fun h => by
        rw [show argB s = true by unfold argB; rw [any_yes hlt h]; rfl]; rfl
      have CT1 := Lib.hid (fun W => CT.out (t : Int) W)
      clear HE hv
      generalize thereB s.c t = tb at *
      generalize (s.p t).length = n3 at *
      cases tb
      · by_cases hn : 0 < n3
        · have HF := Lib.hid (HFt.out (by rw [HAt.out, decide_eq_true hn]; rfl))
          go_wp2_with (first | (refine wpList_load_mid rfl 24 _ rfl g 0 rfl ((List.range 14).map (ints s.c)) _ HR.out.at_.confR Tryd.underlying24 rfl (by kernel_rfl) ?_) | (go_at_call 44; refine (CT1.out _).mono ?_; rintro e w2 ⟨rfl, hb⟩; have HR2 := Lib.hid (HR.out.keep hb); clear hb) | (go_at_call 45; refine (CN1.out _ (by omega) _).mono ?_; rintro e w3 ⟨v, rfl, he, hb⟩; have HE3 := Lib.hid he; have HB3 := Lib.hid (HR2.out.keep hb).bel; clear he hb))
          go_ret
          exact ⟨_, rfl, by rw [HF.out]; exact HE3.out, by rw [HG.out]; exact HB3.out⟩
        · have HE2 := Lib.hid (HEt.out (by rw [HAt.out, decide_eq_false hn, Bool.and_false]))
          go_wp2_with (first | (refine wpList_load_mid rfl 24 _ rfl g 0 rfl ((List.range 14).map (ints s.c)) _ HR.out.at_.confR Tryd.underlying24 rfl (by kernel_rfl) ?_) | (go_at_call 44; refine (CT1.out _).mono ?_; rintro e w2 ⟨rfl, hb⟩; have HR2 := Lib.hid (HR.out.keep hb); clear hb))
          go_roundw
          case rel => exact ⟨t + 1, by go_num, by omega, HR2.out, HE2.out⟩
          case measure => simp [intOf]; omega
      · have HE2 := Lib.hid (HEt.out (by rw [HAt.out]; rfl))
        go_wp2_with (first | (refine wpList_load_mid rfl 24 _ rfl g 0 rfl ((List.range 14).map (ints s.c)) _ HR.out.at_.confR Tryd.underlying24 rfl (by kernel_rfl) ?_) | (go_at_call 44; refine (CT1.out _).mono ?_; rintro e w2 ⟨rfl, hb⟩; have HR2 := Lib.hid (HR.out.keep hb); clear hb))
        go_roundw
        case rel => exact ⟨t + 1, by go_num, by omega, HR2.out, HE2.out⟩
        case measure => simp [intOf]; omega
    · obtain rfl : t = 8 := by omega
      rw [show ((8 : Nat) : Int) = 8 from rfl]
      have HA1 := Lib.hid (any_no HE.out)
      clear HE
      have HX2 : Hid ((∀ i, i < s.e.length → thereB s.c (enN s.e i).th = true) → (bif argB s then (1 : Int) else 0) = 0) := Lib.hid fun h => by
        have : argB s = false := by
          unfold argB
          rw [HA1.out, any_no fun i hi => by unfold lvE; rw [HLV.out, h i hi]; rfl]; rfl
        rw [this]; rfl
      have HX3 : Hid (∀ i, i < s.e.length → thereB s.c (enN s.e i).th = false → (bif argB s then (1 : Int) else 0) = 1) := Lib.hid fun i hi h => by
        have : argB s = true := by
          unfold argB
          rw [any_yes (f := fun i => decide (lvE s i < 0)) hi (by show decide (lvE s i < 0) = true; unfold lvE; rw [HLV.out, h]; rfl), Bool.or_true]
        rw [this]; rfl
      clear HA1 HLV CN1
      obtain ⟨A4, c4, hv4, l4⟩ := HR.out.at_.scr.ents
      have p4 := HR.out.at_.row.cell (i := 22) (by omega)
      rw [hv4] at p4
      have HV4 := Lib.hid hv4
      clear l4 hv4
      obtain ⟨n, hn⟩ : ∃ n, s.e.length = n := ⟨_, rfl⟩
      rw [hn] at p4 HX2 HX3 HTH hel
      have HR0 := HR
      go_wp2_with fail
      go_loopw [29] (fun v wr => ∃ k : Nat, v = .int .i64 k ∧ k ≤ n ∧ RgtR g f s w wr ∧ ∀ i, i < k → thereB s.c (enN s.e i).th = true) (fun v _ => n - (intOf v).toNat)
      case atStart => exact ⟨0, rfl, Nat.zero_le _, HR.out, fun i hi => by omega⟩
      case round =>
        clear HR HR0 p4
        obtain ⟨k, rfl, hk, hr, he⟩ := hrel
        have HR := Lib.hid hr; have HE := Lib.hid he
        clear hr he
        by_cases hlt : k < n
        · obtain ⟨A5, c5, hv5, l5⟩ := HR.out.at_.scr.ents
          have hA5 : A5 = A4 := by
            have := HV4.out; rw [hv5] at this; cases this; rfl
          subst hA5
          obtain ⟨b1, off1, rfl, q0, q1⟩ := l5.atEnt2 (k := k) (by omega)
          have hthk := HTH.out k hlt
          have HX3k := Lib.hid (HX3.out k hlt)
          have HEt : Hid (thereB s.c (enN s.e k).th = true → ∀ i, i < k + 1 → thereB s.c (enN s.e i).th = true) := Lib.hid fun h i hi => by
            rcases Nat.lt_or_ge i k with h2 | h2
            · exact HE.out i h2
            · obtain rfl : i = k := by omega
              exact h
          have CT1 := Lib.hid (fun W => CT.out (enN s.e k).th W)
          clear HE l5 hv5
          generalize thereB s.c (enN s.e k).th = tb at *
          generalize (enN s.e k).th = th at *
          generalize (enN s.e k).wh = wh at *
          go_upto_region 10 with fail
          generalize hW2 : World.alloc _ _ = W2
          have hx : Cells W2 wr.heap.size 51 [.int .i64 th, .int .i64 wh] := by rw [← hW2]; exact Cells.new wr #[.int .i64 th, .int .i64 wh] 51
          have HR2 := Lib.hid (show RgtR g f s w W2 from HR.out.keep (by rw [← hW2]; exact (Below.refl _ _).alloc (Nat.le_refl _) _))
          have p5 := hx.cell0
          have HC2 := Lib.hid hx
          clear hW2 hx HR q0 q1
          generalize wr.heap.size = bb at *
          have HR := HR2
          cases tb
          · have HF := Lib.hid (HX3k.out rfl)
            go_wp2_with (first | (refine wpList_load_mid rfl 24 _ rfl g 0 rfl ((List.range 14).map (ints s.c)) _ HR.out.at_.confR Tryd.underlying24 rfl (by kernel_rfl) ?_) | (go_at_call 44; refine (CT1.out _).mono ?_; rintro e w2 ⟨rfl, hb⟩; have HR3 := Lib.hid (HR.out.keep hb); have p6 := (HC2.out.keep hb).cell0; clear hb) | (go_at_call 45; refine (CN2.out _ hthk _).mono ?_; rintro e w3 ⟨v, rfl, he, hb⟩; have HE3 := Lib.hid he; have HB3 := Lib.hid (HR3.out.keep hb).bel; clear he hb))
            go_ret
            exact ⟨_, rfl, by rw [HF.out]; exact HE3.out, by rw [HG.out]; exact HB3.out⟩
          · have HE2 := Lib.hid (HEt.out rfl)
            go_wp2_with (first | (refine wpList_load_mid rfl 24 _ rfl g 0 rfl ((List.range 14).map (ints s.c)) _ HR.out.at_.confR Tryd.underlying24 rfl (by kernel_rfl) ?_) | (go_at_call 44; refine (CT1.out _).mono ?_; rintro e w2 ⟨rfl, hb⟩; have HR3 := Lib.hid (HR.out.keep hb); clear hb))
            go_roundw
            case rel => exact ⟨k + 1, by go_num, by omega, HR3.out, HE2.out⟩
            case measure => simp [intOf]; omega
        · obtain rfl : k = n := by omega
          have HF := Lib.hid (HX2.out HE.out)
          go_wp2_with fail
          go_ret
          exact ⟨_, rfl, by rw [HF.out]; exact errOf_no _, by rw [HG.out]; exact HR.out.bel⟩
end Go.Proofs.YtdbankogamolcaaDoor
namespace Go.Proofs.YtdbankogamolcaaDoor
set_option linter.unusedSimpArgs false
set_option linter.unusedVariables false
open Go.ChangeShapes Go.WideShapes Go.ChangeAt Go.RowKit

theorem anyL_no {T : List Int} {P : Int → Bool} (h : ∀ i, i < T.length → P (T.getD i 0) = false) : T.any P = false := by
  rw [List.any_eq_false]
  intro x hx
  obtain ⟨i, hi, rfl⟩ := List.getElem_of_mem hx
  have := h i hi
  rw [List.getD_eq_getElem?_getD, List.getElem?_eq_getElem hi] at this
  simpa using this
theorem anyL_yes {T : List Int} {P : Int → Bool} {i : Nat} (hi : i < T.length) (h : P (T.getD i 0) = true) : T.any P = true := by
  rw [List.any_eq_true]
  refine ⟨T[i], List.getElem_mem hi, ?_⟩
  rw [List.getD_eq_getElem?_getD, List.getElem?_eq_getElem hi] at h
  exact h
theorem thr_at {c : Nat → Int} {lo hi : Int} {n i : Nat} (h : i < (thr c lo hi n).length) : ∃ t : Nat, t < n ∧ (thr c lo hi n).getD i 0 = t := by
  have hm : (thr c lo hi n).getD i 0 ∈ thr c lo hi n := by
    rw [List.getD_eq_getElem?_getD, List.getElem?_eq_getElem h]
    exact List.getElem_mem h
  unfold thr at hm
  rw [List.mem_map] at hm
  obtain ⟨t, ht, he⟩ := hm
  rw [List.mem_filter, List.mem_range] at ht
  exact ⟨t, ht.1, he.symm⟩
theorem within_le {c : Nat → Int} (hm : mayB c = true) {t : Nat} (ht : t < (c 1).toNat) (lv : Int) : withinB (c (2 + t)) 0 lv = decide (c (2 + t) ≤ lv) := by
  have hb := may_bounds hm
  rcases lvl_bounds c (t : Int) with ⟨_, h5⟩ | ⟨h5, _, _, _, _, _, h6⟩
  · exact absurd ⟨hm, by omega, by omega⟩ h5
  · rw [h6, Int.toNat_natCast] at h5
    unfold withinB
    rw [decide_eq_true h5, Bool.true_and]
/-- Is a thread's program too long? -/
def longP (s : Scr) (x : Int) : Bool := decide (40 < (s.p x.toNat).length)
theorem prL_list {s : Scr} (hm : mayB s.c = true) (lv : Int) : ∀ n, n ≤ (s.c 1).toNat → prL s lv n = (thr s.c 0 lv n).any (longP s)
  | 0, _ => rfl
  | n + 1, h => by
    rw [thr_succ, within_le hm (by omega), List.any_append, ← prL_list hm lv n (by omega)]
    show (bif decide (s.c (2 + n) ≤ lv) then (prL s lv n || decide (40 < (s.p n).length)) else prL s lv n) = _
    generalize prL s lv n = x
    by_cases h1 : s.c (2 + n) ≤ lv
    · rw [decide_eq_true h1, if_pos rfl]
      simp [longP]
    · rw [decide_eq_false h1, if_neg Bool.false_ne_true]
      simp
/-- May a call of a thread's program not be? -/
def badP (s : Scr) (x : Int) : Bool := clsB (s.p x.toNat) false (s.p x.toNat).length
theorem clsB_or (L : List Cl) (b : Bool) : ∀ k, clsB L b k = (b || clsB L false k)
  | 0 => by unfold clsB; rw [Bool.or_false]
  | k + 1 => by unfold clsB; rw [clsB_or L b k, Bool.or_assoc]
theorem prB_list {s : Scr} (hm : mayB s.c = true) (lv : Int) (b : Bool) : ∀ n, n ≤ (s.c 1).toNat → prB s lv b n = (b || (thr s.c 0 lv n).any (badP s))
  | 0, _ => by unfold prB; simp [thr]
  | n + 1, h => by
    rw [thr_succ, within_le hm (by omega), List.any_append, ← Bool.or_assoc, ← prB_list hm lv b n (by omega)]
    show (bif decide (s.c (2 + n) ≤ lv) then clsB (s.p n) (prB s lv b n) (s.p n).length else prB s lv b n) = _
    generalize prB s lv b n = x
    by_cases h1 : s.c (2 + n) ≤ lv
    · rw [decide_eq_true h1, if_pos rfl]
      show clsB (s.p n) x (s.p n).length = _
      rw [clsB_or]
      simp [badP]
    · rw [decide_eq_false h1, if_neg Bool.false_ne_true]
      simp
theorem clsB_yes {L : List Cl} : ∀ {k i : Nat}, i < k → mayC (clN L i).op (clN L i).l (clN L i).r = false → clsB L false k = true
  | 0, _, h, _ => absurd h (Nat.not_lt_zero _)
  | k + 1, i, h, hx => by
    unfold clsB
    rcases Nat.lt_succ_iff_lt_or_eq.1 h with h1 | rfl
    · rw [clsB_yes h1 hx]; rfl
    · rw [hx]; simp
theorem clsB_no {L : List Cl} : ∀ {k : Nat}, (∀ i, i < k → mayC (clN L i).op (clN L i).l (clN L i).r = true) → clsB L false k = false
  | 0, _ => rfl
  | k + 1, h => by
    unfold clsB
    rw [clsB_no fun i hi => h i (by omega), h k (by omega)]; rfl
theorem entB_yes {s : Scr} {lv : Int} : ∀ {k i : Nat}, i < k → lvE s i ≤ lv → entW (enN s.e i) = true → entB s lv k = true
  | 0, _, h, _, _ => absurd h (Nat.not_lt_zero _)
  | k + 1, i, h, hl, hx => by
    unfold entB
    rcases Nat.lt_succ_iff_lt_or_eq.1 h with h1 | rfl
    · rw [entB_yes h1 hl hx]; cases decide (lvE s k ≤ lv) <;> rfl
    · rw [decide_eq_true hl, hx]; simp
theorem entB_none {s : Scr} {lv : Int} : ∀ {k : Nat}, (∀ i, i < k → lvE s i ≤ lv → entW (enN s.e i) = false) → entB s lv k = false
  | 0, _ => rfl
  | k + 1, h => by
    unfold entB
    rw [entB_none fun i hi => h i (by omega)]
    by_cases hl : lvE s k ≤ lv
    · rw [decide_eq_true hl, h k (by omega) hl]; rfl
    · rw [decide_eq_false hl]; rfl
/-- Where there is no entry of nobody's. -/
theorem arg_ent {s : Scr} (hm : mayB s.c = true) (ha : argB s = false) {i : Nat} (hi : i < s.e.length) : ∃ t : Nat, (enN s.e i).th = t ∧ t < 8 ∧ lvE s i = s.c (2 + t) := by
  have hb := may_bounds hm
  unfold argB at ha
  have h2 := (Bool.or_eq_false_iff.1 ha).2
  rw [List.any_eq_false] at h2
  have h3 : ¬ lvE s i < 0 := fun h => h2 i (List.mem_range.2 hi) (decide_eq_true h)
  rcases lvl_bounds s.c (enN s.e i).th with ⟨h5, _⟩ | ⟨h5, h6, h7, _, h8, h9, h10⟩
  · exact absurd (by unfold lvE; rw [h5]; decide) h3
  · refine ⟨(enN s.e i).th.toNat, by omega, by omega, ?_⟩
    unfold lvE
    rw [h10]
end Go.Proofs.YtdbankogamolcaaDoor
