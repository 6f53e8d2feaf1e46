/- strconv.Itoa, and the table that it reads. · What makes an error out of a code: New. · What makes an error out of another: Note. · Package script: what its contracts speak of. · What is so of scripts that are right. · What bytes tell of a script: the document's answer as a function of the bytes. · Numbers as bytes, there and back. · Parts of words, as quotients and rests. No program is named. · Numbers as bytes, by package field: what is cut, what is set. -/
import Derived.Test.YtdbankogamolcaaDoorJ8
import Derived.Test.YtdbankogamolcaaDoorJ10
import Derived.Lib.AppendStr
import Derived.Laws.Externs
import Derived.WalkSmall
import Derived.Test.YtdbankogamolcaaDoorJ9
import Derived.Test.YtdbankogamolcaaDoorJ5
namespace Go.Proofs.YtdbankogamolcaaDoor
set_option linter.unusedSimpArgs false
set_option linter.unusedVariables false
open Go.ChangeShapes Go.WideShapes Go.RowKit Go.Extern.Stop Go.Stop Go.Extern

/-- strconv.Itoa. -/
theorem dec_same : ∀ n : Nat, Lib.decDigits n = decN n := by
  intro n
  induction n using Nat.strongRecOn with
  | _ n ih =>
    rw [Lib.decDigits, decN]
    by_cases h : n < 10
    · rw [dif_pos h, if_pos h]
    · rw [dif_neg h, if_neg h, ih _ (by omega)]
theorem num_same (n : Int) : Lib.itoa n = numL n := by
  unfold Lib.itoa numL
  by_cases h : n < 0
  · rw [if_pos h, dec_same]; simp [h]
  · rw [if_neg h, dec_same]
    have : n.natAbs = n.toNat := by omega
    simp [h, this]
/-- The table that strconv.Itoa reads. -/
def TabW (w : World) : Prop := Lib.TabIs Tryd.prog w "internal/strconv.uint64pow10" .u64 Lib.pow10Tab
theorem itoa_any (n : Int) (h0 : -9223372036854775808 ≤ n) (h1 : n ≤ 9223372036854775807) (w : World) (ht : TabW w) : Calls Tryd.prog 48 #[.int .i64 n] w
    fun e w' => e = .returned (.string (sB (numL n))) ∧ Below w.heap.size w w' := by
  refine (Any.strconv_Itoa Tryd.laysM171 n h0 h1 w ht).mono fun e w' ⟨he, k, os, hw⟩ => ⟨?_, ?_⟩
  · rw [he, num_same]; rfl
  · subst hw
    refine ⟨rfl, rfl, rfl, by simp [«Sort».grow], fun i hi => ?_⟩
    show ((w.drewN k).heap ++ os)[i]? = _
    rw [Array.getElem?_append_left (by show i < w.heap.size; omega)]
    rfl
theorem tabG : Tryd.prog.globalNamed "internal/strconv.uint64pow10" = some 1 := by kernel_rfl
theorem TabW.below {w w' : World} (h : TabW w) (hb : Below w.heap.size w w') : TabW w' :=
  var?_below hb tabG (World.block_lt_of_cell? _ _ (Lib.TabIs.cell h tabG 0 (by decide))) h
end Go.Proofs.YtdbankogamolcaaDoor
namespace Go.Proofs.YtdbankogamolcaaDoor
set_option linter.unusedSimpArgs false
set_option linter.unusedVariables false
open Go.ChangeShapes Go.WideShapes Go.RowKit Go.Extern.Stop Go.Stop Go.Extern

theorem ErrsIs.top_le {w : World} {e : Errs} (h : ErrsIs w e) : e.top ≤ w.heap.size + 1 := by
  cases e with
  | err g t l s i => have := h.1; show g + 2 ≤ _; omega
  | note g s i => have := h.1; show g + 2 ≤ _; omega
  | no => exact Nat.zero_le _
  | _ => exact Nat.succ_le_succ (Nat.zero_le _)
theorem new_zero (t l : Int) (s : ByteArray) (w : World) : Calls Tryd.prog 45 #[.int .i64 t, .int .i64 l, .string s, .int .i64 0] w fun r w' => r = .returned .nilIface ∧ w = w' := by
  go_enter Tryd.func45, Tryd.ntmps45
  go_wp2
  go_ret
  exact ⟨rfl, rfl⟩
theorem new_is (t l : Int) (s : List UInt8) (c : Int) (w : World) (bt : -9223372036854775808 ≤ t ∧ t ≤ 9223372036854775807) (bl : -9223372036854775808 ≤ l ∧ l ≤ 9223372036854775807) (bc : -9223372036854775808 ≤ c ∧ c ≤ 9223372036854775807) (hs : s.length ≤ 200) :
    ErrsIs (w.alloc (.cells #[.int .i64 t, .int .i64 l, .string (sB s), .iface 35 (.int .i64 c)] 109)) (.err w.heap.size t l s (.code c)) := by
  refine ⟨by simp, ?_, ?_, ?_, ?_, bt, bl, hs, ?_, bc⟩
  · simp
  · simp
  · simp
  · simp [Errs.val]
  · show 1 ≤ _; omega
theorem new_any (t l : Int) (s : List UInt8) (c : Int) (w : World) (hc : c ≠ 0) (bt : -9223372036854775808 ≤ t ∧ t ≤ 9223372036854775807) (bl : -9223372036854775808 ≤ l ∧ l ≤ 9223372036854775807) (bc : -9223372036854775808 ≤ c ∧ c ≤ 9223372036854775807) (hs : s.length ≤ 200) :
    Calls Tryd.prog 45 #[.int .i64 t, .int .i64 l, .string (sB s), .int .i64 c] w fun r w' => r = .returned (Errs.err w.heap.size t l s (.code c)).val ∧ ErrsIs w' (.err w.heap.size t l s (.code c)) ∧ Below w.heap.size w w' := by
  have hI := Lib.hid (new_is t l s c w bt bl bc hs)
  generalize sB s = S at *
  clear hs
  go_enter Tryd.func45, Tryd.ntmps45
  go_wp2
  go_ret
  exact ⟨rfl, hI.out, (Below.refl _ _).alloc (Nat.le_refl _) _⟩
end Go.Proofs.YtdbankogamolcaaDoor
namespace Go.Proofs.YtdbankogamolcaaDoor
set_option linter.unusedSimpArgs false
set_option linter.unusedVariables false
open Go.ChangeShapes Go.WideShapes Go.RowKit Go.Extern.Stop Go.Stop Go.Extern

theorem note_no (s : ByteArray) (w : World) : Calls Tryd.prog 21 #[.string s, .nilIface] w fun r w' => r = .returned .nilIface ∧ w = w' := by
  go_enter Tryd.func21, Tryd.ntmps21
  go_wp2
  go_ret
  exact ⟨rfl, rfl⟩
theorem note_is (s : List UInt8) (e : Errs) (w : World) (h : ErrsIs w e) (hs : s.length ≤ 200) : ErrsIs (w.alloc (.cells #[.string (sB s), e.val] 82)) (.note w.heap.size s e) := by
  refine ⟨by simp, ?_, ?_, hs, h.top_le, h.below ((Below.refl _ _).alloc (Nat.le_refl _) _)⟩
  · simp
  · simp
theorem note_any (s : List UInt8) (e : Errs) (w : World) (he : e ≠ .no) (h : ErrsIs w e) (hs : s.length ≤ 200) :
    Calls Tryd.prog 21 #[.string (sB s), e.val] w fun r w' => r = .returned (Errs.note w.heap.size s e).val ∧ ErrsIs w' (.note w.heap.size s e) ∧ Below w.heap.size w w' := by
  have hI := Lib.hid (note_is s e w h hs)
  obtain ⟨U, v, hv⟩ := val_iface e he
  generalize sB s = S at *
  rw [hv] at hI ⊢
  clear h hs hv he
  go_enter Tryd.func21, Tryd.ntmps21
  go_wp2
  go_ret
  exact ⟨rfl, hI.out, (Below.refl _ _).alloc (Nat.le_refl _) _⟩
end Go.Proofs.YtdbankogamolcaaDoor
namespace Go.Proofs.YtdbankogamolcaaDoor
set_option linter.unusedSimpArgs false
set_option linter.unusedVariables false
open Go.ChangeShapes Go.WideShapes Go.ChangeAt Go.RowKit

/-- A script within what is gone through. -/
structure LimS (s : Scr) : Prop where
  conf : Ok64 s.c
  el : s.e.length ≤ 1000000
  pl : ∀ t, t < 8 → (s.p t).length ≤ 1000
  cl : ∀ t, t < 8 → ∀ k, k < (s.p t).length → OkCl (clN (s.p t) k)
  en : ∀ k, k < s.e.length → OkEnt (enN s.e k)
/-- What an error is that says a code: none says OK. -/
def ErrOf (w : World) (v : Value) (c : Int) : Prop := ∃ e : Errs, v = e.val ∧ ErrsIs w e ∧ e.codeOf = c ∧ (e = .no ↔ c = 0)
theorem ErrOf.keep {w w' : World} {v : Value} {c : Int} (h : ErrOf w v c) (hb : Below w.heap.size w w') : ErrOf w' v c := by
  obtain ⟨e, h1, h2, h3⟩ := h
  exact ⟨e, h1, h2.below hb, h3⟩
/-- What the library's functions read: what errors are asked by, what numbers are written by. -/
structure EnvS (w : World) : Prop where
  et : ErrT w
  tab : TabW w
theorem EnvS.below {w w' : World} (h : EnvS w) (hb : Below w.heap.size w w') : EnvS w' := ⟨h.et.below hb, h.tab.below hb⟩
/-- The level up to which Put asks a script to be right. -/
def allL (s : Scr) : Int := IntKind.i64.wrap (s.c 0 - 1)
/-- What Put hands back. -/
def PutIs (w : World) (v u : Value) (s : Scr) : Prop := ErrOf w u (rightN s (allL s)) ∧ (rightN s (allL s) = 0 → ∃ A c, v = .slice A (putS18 s).length c ∧ LiesC w A (flatB (putS18 s))) ∧ (rightN s (allL s) ≠ 0 → ∃ A c, v = .slice A 0 c)
theorem PutIs.keep {w w' : World} {v u : Value} {s : Scr} (h : PutIs w v u s) (hb : Below w.heap.size w w') : PutIs w' v u s := by
  obtain ⟨h1, h2, h3⟩ := h
  refine ⟨h1.keep hb, fun h => ?_, h3⟩
  obtain ⟨A, c, h4, h5⟩ := h2 h
  exact ⟨A, c, h4, h5.keep hb⟩
/-- Bytes in memory as a string. -/
theorem conv_bytes (L : List Int) (A : Option Addr) (c : Nat) (W : World) (h : LiesC W A (flatB L)) : (convert 39 9 (.slice A L.length c)).run Tryd.prog W = .ok (.string (strOfNums L)) W := by
  cases L with
  | nil =>
    rw [run_convert_bytes_string W _ _ 5 A _ c Tryd.underlying39 Tryd.underlying5 Tryd.underlying9]
    cases A with
    | none => simp [Conv.bytesToString]; rfl
    | some a => simp [Conv.bytesToString, loadCells]; rfl
  | cons x L =>
    rcases h with h | ⟨b, off, rfl, hb, hx⟩
    · cases h
    · exact run_convert_bytes_arg W 39 5 Tryd.underlying39 Tryd.underlying5 b off _ c (x :: L) rfl (fun i hi => by
        have := hx i _ (flatB_get (x :: L) i hi)
        exact this) 9 Tryd.underlying9
end Go.Proofs.YtdbankogamolcaaDoor
namespace Go.Proofs.YtdbankogamolcaaDoor
set_option linter.unusedSimpArgs false
set_option linter.unusedVariables false
open Go.ChangeShapes Go.WideShapes Go.ChangeAt Go.RowKit

theorem entB_no {s : Scr} {lv : Int} : ∀ {n : Nat}, entB s lv n = false → ∀ i, i < n → lvE s i ≤ lv → entW (enN s.e i) = false
  | 0, _, i, hi, _ => absurd hi (Nat.not_lt_zero _)
  | n + 1, h, i, hi, hl => by
    unfold entB at h
    rcases Nat.lt_succ_iff_lt_or_eq.1 hi with h1 | rfl
    · cases hd : decide (lvE s n ≤ lv) with
      | true => rw [hd] at h; exact entB_no (Bool.or_eq_false_iff.1 h).1 i h1 hl
      | false => rw [hd] at h; exact entB_no h i h1 hl
    · rw [decide_eq_true hl] at h
      exact (Bool.or_eq_false_iff.1 h).2
theorem clsB_start {L : List Cl} {b : Bool} : ∀ {k : Nat}, clsB L b k = false → b = false
  | 0, h => h
  | _ + 1, h => clsB_start (Bool.or_eq_false_iff.1 h).1
theorem prB_start {s : Scr} {lv : Int} {b : Bool} : ∀ {t : Nat}, prB s lv b t = false → b = false
  | 0, h => h
  | t + 1, h => by
    unfold prB at h
    cases hd : decide (s.c (2 + t) ≤ lv) with
    | true => rw [hd] at h; exact prB_start (clsB_start h)
    | false => rw [hd] at h; exact prB_start h
theorem right_may {s : Scr} {lv : Int} (h : rightN s lv = 0) : mayB s.c = true ∧ argB s = false ∧ prB s lv (entB s lv s.e.length) (s.c 1).toNat = false := by
  unfold rightN at h
  cases hm : mayB s.c with
  | false => rw [hm] at h; simp at h
  | true =>
    rw [hm] at h
    cases ha : argB s with
    | true => rw [ha] at h; simp at h
    | false =>
      rw [ha] at h
      cases hp : prB s lv (entB s lv s.e.length) (s.c 1).toNat with
      | true => rw [hp] at h; simp at h
      | false => exact ⟨rfl, rfl, rfl⟩
/-- The level up to which Put asks, of a configuration that may be. -/
theorem allL_may {s : Scr} (h : mayB s.c = true) : allL s = s.c 0 - 1 := by
  have hb := (may_bounds h).1
  unfold allL
  rw [IntKind.wrap_i64]; omega
/-- What Put asks of entries. -/
theorem right_ents {s : Scr} (h : rightN s (allL s) = 0) : ∀ i, i < s.e.length → 0 ≤ (enN s.e i).th ∧ (enN s.e i).th ≤ 7 ∧ 0 ≤ (enN s.e i).wh ∧ (enN s.e i).wh ≤ 3 := fun i hi => by
  obtain ⟨hm, ha, hp⟩ := right_may h
  have hb := may_bounds hm
  unfold argB at ha
  have h2 := (Bool.or_eq_false_iff.1 ha).2
  rw [List.any_eq_false] at h2
  have h3 := h2 i (List.mem_range.2 hi)
  have h4 : ¬ lvE s i < 0 := fun h => h3 (decide_eq_true h)
  rcases lvl_bounds s.c (enN s.e i).th with ⟨h5, _⟩ | ⟨h5, h6, _, _, h7, h8, _⟩
  · exact absurd (by unfold lvE; rw [h5]; decide) h4
  · have h9 := entB_no (prB_start hp) i hi (by unfold lvE; rw [allL_may hm]; omega)
    unfold entW at h9
    obtain ⟨w1, w2⟩ := Bool.or_eq_false_iff.1 h9
    have w3 := of_decide_eq_false w1
    have w4 := of_decide_eq_false w2
    omega
theorem okC_of {x : Cl} (h : OkCl x) : OkC x := ⟨h.key, h.pa, h.pb, h.hd⟩
/-- Put, of a script that is right. -/
theorem r18Put_right (f : Nat → Value) (s : Scr) (hl : LimS s) (h : rightN s (allL s) = 0) (w : World) (hs : ScrIs w f s) :
    Calls Tryd.prog 17 #[.agg (rowOf 23 f)] w fun e w' => ∃ v, e = .returned v ∧ LnIs w' v (putS18 s).length (flatB (putS18 s)) ∧ Far w.heap.size v ∧ Below w.heap.size w w' :=
  r18Put_any f s (right_may h).1 hl.el hl.pl (fun t ht k hk => okC_of (hl.cl t ht k hk)) (right_ents h) w hs
end Go.Proofs.YtdbankogamolcaaDoor
namespace Go.Proofs.YtdbankogamolcaaDoor
set_option linter.unusedSimpArgs false
set_option linter.unusedVariables false
open Go.ChangeShapes Go.WideShapes Go.ChangeAt Go.RowKit

/-- A number below 2^64 as one of a machine's. -/
def sgnN (n : Int) : Int := if n < 9223372036854775808 then n else n - 18446744073709551616
def byN (L : List Int) (i : Nat) : Int := L.getD i 0
def takeC (L : List Int) : Nat → Int := fun i => if i < 12 then byN L i else if i = 12 then atN L 12 3 3 else if i = 13 then byN L 15 else 0
def takeCl (L : List Int) (i : Nat) : Cl := { op := byN L i, l := byN L (i + 1), r := byN L (i + 2), key := sgnN (atN L (i + 3) 8 8), pa := atN L (i + 11) 8 8, pb := atN L (i + 19) 8 8, hd := atN L (i + 27) 8 8 }
/-- n calls from i on: the code, where they end, the calls. -/
def takeCls (L : List Int) : Nat → Nat → List Cl → Int × Nat × List Cl
  | 0, i, P => (0, i, P)
  | n + 1, i, P => if (L.length : Int) - i < 35 then (4, i, P) else if mayC (byN L i) (byN L (i + 1)) (byN L (i + 2)) = false then (14, i, P) else takeCls L n (i + 35) (P ++ [takeCl L i])
def setP (p : Nat → List Cl) (t : Nat) (x : List Cl) : Nat → List Cl := fun k => if k = t then x else p k
/-- The programs of n threads from t on. -/
def takePs (L : List Int) : Nat → Nat → Nat → (Nat → List Cl) → Int × Nat × (Nat → List Cl)
  | 0, _, i, p => (0, i, p)
  | n + 1, t, i, p => if L.length ≤ i then (4, i, p) else if 40 < byN L i then (5, i, p) else
    let x := takeCls L (byN L i).toNat (i + 1) []
    if x.1 = 0 then takePs L n (t + 1) x.2.1 (setP p t x.2.2) else (x.1, i, p)
/-- The entries of the n bytes from i on. -/
def takeEs (L : List Int) (thr : Int) : Nat → Nat → List Ent → Int × List Ent
  | 0, _, E => (0, E)
  | n + 1, i, E => if E.length = 60000 then (5, E) else if 31 < byN L i ∨ thr ≤ byN L i % 8 then (3, E) else takeEs L thr n (i + 1) (E ++ [⟨byN L i % 8, byN L i / 8⟩])
def noScr : Scr := ⟨fun _ => 0, fun _ => [], []⟩
/-- The code, and the script. -/
def takeN (L : List Int) : Int × Scr :=
  if L.length < 16 then (4, noScr) else if mayB (takeC L) = false then (2, noScr) else
  let x := takePs L (byN L 1).toNat 0 16 (fun _ => [])
  if x.1 = 0 then
    let y := takeEs L (byN L 1) (L.length - x.2.1) x.2.1 []
    if y.1 = 0 then (0, ⟨takeC L, x.2.2, y.2⟩) else (y.1, noScr)
  else (x.1, noScr)
theorem byN_bound {L : List Int} (h : Byt L) (i : Nat) : 0 ≤ byN L i ∧ byN L i ≤ 255 := h i
theorem takeC_ok {L : List Int} (h : Byt L) : Ok64 (takeC L) := fun i => by
  unfold takeC
  split
  · have := byN_bound h i; omega
  · split
    · have := atN_bound h 12 3 3
      rw [show (256 : Int) ^ 3 = 16777216 from rfl] at this
      omega
    · split
      · have := byN_bound h 15; omega
      · omega
theorem takeCls_len (L : List Int) : ∀ n i P, (takeCls L n i P).2.2.length ≤ P.length + n
  | 0, i, P => Nat.le_refl _
  | n + 1, i, P => by
    unfold takeCls
    split
    · exact Nat.le_add_right _ _
    · split
      · exact Nat.le_add_right _ _
      · have := takeCls_len L n (i + 35) (P ++ [takeCl L i])
        rw [List.length_append] at this
        simp only [List.length_cons, List.length_nil] at this
        omega
theorem takePs_len (L : List Int) : ∀ n t i p, (∀ k, (p k).length ≤ 40) → ∀ k, ((takePs L n t i p).2.2 k).length ≤ 40
  | 0, t, i, p, h => h
  | n + 1, t, i, p, h => by
    unfold takePs
    split
    · exact h
    · split
      · exact h
      · rename_i h40
        dsimp only
        split
        · refine takePs_len L n (t + 1) _ _ fun k => ?_
          unfold setP
          split
          · have := takeCls_len L (byN L i).toNat (i + 1) []
            simp only [List.length_nil] at this
            omega
          · exact h k
        · exact h
theorem takeEs_len (L : List Int) (thr : Int) : ∀ n i E, E.length ≤ 60000 → (takeEs L thr n i E).2.length ≤ 60000
  | 0, i, E, h => h
  | n + 1, i, E, h => by
    unfold takeEs
    split
    · exact h
    · split
      · exact h
      · refine takeEs_len L thr n _ _ ?_
        rw [List.length_append]
        simp only [List.length_cons, List.length_nil]
        omega
theorem takeN_lim (L : List Int) : (takeN L).2.e.length ≤ 60000 ∧ ∀ t, ((takeN L).2.p t).length ≤ 40 := by
  unfold takeN
  split
  · exact ⟨Nat.zero_le _, fun _ => Nat.zero_le _⟩
  · split
    · exact ⟨Nat.zero_le _, fun _ => Nat.zero_le _⟩
    · dsimp only
      split
      · split
        · exact ⟨takeEs_len L _ _ _ _ (Nat.zero_le _), fun t => takePs_len L _ _ _ _ (fun _ => Nat.zero_le _) t⟩
        · exact ⟨Nat.zero_le _, fun _ => Nat.zero_le _⟩
      · exact ⟨Nat.zero_le _, fun _ => Nat.zero_le _⟩
/-- Bytes as an argument. -/
def BytesAt (w : World) (A : Option Addr) (L : List Int) : Prop := LiesC w A (flatB L) ∧ Byt L
end Go.Proofs.YtdbankogamolcaaDoor
namespace Go.Proofs.YtdbankogamolcaaDoor
set_option linter.unusedSimpArgs false
set_option linter.unusedVariables false
open Go.ChangeShapes Go.WideShapes Go.ChangeAt Go.RowKit

theorem pow256 (k : Nat) : (0 : Int) < 256 ^ k := Int.pow_pos (by decide)
/-- A number's quotient by its lowest bytes: its highest ones. -/
theorem atN_div {L : List Int} (hL : Byt L) (i s : Nat) : ∀ k, k ≤ s → atN L i s s / 256 ^ k = atN L i s (s - k)
  | 0, _ => by rw [Int.pow_zero, Int.ediv_one]; rfl
  | k + 1, hk => by
    rw [Int.pow_succ, ← Int.ediv_ediv_of_nonneg (Int.le_of_lt (pow256 k)), atN_div hL i s k (by omega)]
    obtain ⟨j, hj⟩ : ∃ j, s - k = j + 1 := ⟨s - k - 1, by omega⟩
    rw [hj, show s - (k + 1) = j by omega]
    have := hL (i + (s - 1 - j))
    show (256 * atN L i s j + L.getD (i + (s - 1 - j)) 0) / 256 = atN L i s j
    omega
theorem atN_mod {L : List Int} (hL : Byt L) (i s k : Nat) (hk : k < s) : atN L i s s / 256 ^ k % 256 = L.getD (i + k) 0 := by
  rw [atN_div hL i s k (by omega)]
  obtain ⟨j, hj⟩ : ∃ j, s - k = j + 1 := ⟨s - k - 1, by omega⟩
  have h1 := hL (i + (s - 1 - j))
  rw [hj]
  unfold atN
  rw [show s - 1 - j = k by omega] at h1 ⊢
  omega
/-- The bytes of the number that bytes make are these. -/
theorem numB_at {L : List Int} (hL : Byt L) (i s : Nat) : ∀ k, k ≤ s → numB (atN L i s s) k = (List.range k).map fun j => L.getD (i + j) 0
  | 0, _ => rfl
  | k + 1, hk => by
    unfold numB
    rw [numB_at hL i s k (by omega), atN_mod hL i s k (by omega), List.range_succ, List.map_append]
    rfl
theorem numB_get (n : Int) : ∀ s k, k < s → (numB n s).getD k 0 = n / 256 ^ k % 256
  | 0, k, h => absurd h (Nat.not_lt_zero _)
  | s + 1, k, h => by
    unfold numB
    rcases Nat.lt_succ_iff_lt_or_eq.1 h with h1 | rfl
    · rw [List.getD_eq_getElem?_getD, List.getElem?_append_left (by rw [numB_len]; exact h1), ← List.getD_eq_getElem?_getD]
      exact numB_get n s k h1
    · rw [List.getD_eq_getElem?_getD, List.getElem?_append_right (by rw [numB_len]; exact Nat.le_refl _), numB_len, Nat.sub_self]
      rfl
/-- The number that a number's bytes make is this one. -/
theorem atN_num {L : List Int} {n : Int} (i s : Nat) (h : ∀ k, k < s → L.getD (i + k) 0 = (numB n s).getD k 0) (hn : 0 ≤ n ∧ n < 256 ^ s) : ∀ j, j ≤ s → atN L i s j = n / 256 ^ (s - j)
  | 0, _ => by
    unfold atN
    rw [Nat.sub_zero, Int.ediv_eq_zero_of_lt hn.1 hn.2]
  | j + 1, hj => by
    unfold atN
    rw [atN_num i s h hn j (by omega), h (s - 1 - j) (by omega), numB_get n s _ (by omega)]
    obtain ⟨k, hk⟩ : ∃ k, s - j = k + 1 := ⟨s - j - 1, by omega⟩
    rw [hk, show s - (j + 1) = k by omega, show s - 1 - j = k by omega, Int.pow_succ, ← Int.ediv_ediv_of_nonneg (Int.le_of_lt (pow256 k))]
    omega
theorem atN_back {L : List Int} {n : Int} (i s : Nat) (h : ∀ k, k < s → L.getD (i + k) 0 = (numB n s).getD k 0) (hn : 0 ≤ n ∧ n < 256 ^ s) : atN L i s s = n := by
  rw [atN_num i s h hn s (Nat.le_refl _), Nat.sub_self, Int.pow_zero, Int.ediv_one]
theorem sgn_wrap {n : Int} (h : 0 ≤ n ∧ n < 18446744073709551616) : IntKind.u64.wrap (sgnN n) = n := by
  unfold sgnN
  rw [IntKind.wrap_u64]
  split <;> omega
theorem wrap_sgn {n : Int} (h : -9223372036854775808 ≤ n ∧ n ≤ 9223372036854775807) : sgnN (IntKind.u64.wrap n) = n := by
  unfold sgnN
  rw [IntKind.wrap_u64]
  split <;> omega
end Go.Proofs.YtdbankogamolcaaDoor
namespace Go.Proofs.YtdbankogamolcaaDoor
set_option linter.unusedSimpArgs false
set_option linter.unusedVariables false

theorem cutN_div {x : Nat} (_hx : x < 18446744073709551616) {a z : Int} (h0 : 0 ≤ a) (h1 : 0 ≤ z) (h : a + z ≤ 64) : cutN x a z = x / pw a.toNat % pw z.toNat := by
  have hlt : x / pw a.toNat % pw z.toNat < 2 ^ 64 := Nat.lt_of_lt_of_le (Nat.mod_lt _ (pw_pos _)) (pw_le (show z.toNat ≤ 64 by omega))
  refine eq_of_bits (n := 64) (bits64 _) hlt (fun i hi => ?_)
  unfold cutN pw
  rw [bitsOf_bit, Nat.testBit_mod_two_pow, Nat.testBit_div_two_pow]
  by_cases hz : (i : Int) < z
  · rw [bitAt_in _ _ (by omega) (by omega)]
    simp only [hi, hz, decide_true, Bool.true_and, show i < z.toNat by omega]
    congr 1; omega
  · simp [hz]
    try (intro h; omega)

theorem setN_div {x n : Nat} (hx : x < 18446744073709551616) {a s : Int} (h0 : 0 ≤ a) (h1 : 0 ≤ s) (h : a + s ≤ 64) :
    setN x a s n = pw a.toNat * (pw s.toNat * (x / pw (a + s).toNat) + n % pw s.toNat) + x % pw a.toNat := by
  have e : (a + s).toNat = a.toNat + s.toNat := by omega
  have hq : pw a.toNat * (pw s.toNat * (x / pw (a + s).toNat) + n % pw s.toNat) + x % pw a.toNat < 2 ^ 64 := by
    have h5 : pw (a.toNat + s.toNat) = pw a.toNat * pw s.toNat := by unfold pw; rw [Nat.pow_add]
    have h6 := Nat.mod_lt n (pw_pos s.toNat)
    have h7 := Nat.mod_lt x (pw_pos a.toNat)
    have h8 : pw a.toNat * (pw s.toNat * (x / pw (a + s).toNat) + n % pw s.toNat) + x % pw a.toNat < pw a.toNat * (pw s.toNat * (x / pw (a + s).toNat) + pw s.toNat) := by
      have : pw a.toNat * (pw s.toNat * (x / pw (a + s).toNat) + n % pw s.toNat) + pw a.toNat ≤ pw a.toNat * (pw s.toNat * (x / pw (a + s).toNat) + pw s.toNat) := by
        rw [← Nat.mul_succ]; exact Nat.mul_le_mul_left _ (by omega)
      omega
    have h9 : pw a.toNat * (pw s.toNat * (x / pw (a + s).toNat) + pw s.toNat) = pw (a.toNat + s.toNat) * (x / pw (a + s).toNat + 1) := by
      rw [h5, Nat.mul_assoc, Nat.mul_add (pw s.toNat), Nat.mul_one]
    have hp : pw (a.toNat + s.toNat) * pw (64 - (a.toNat + s.toNat)) = 2 ^ 64 := by unfold pw; rw [← Nat.pow_add]; congr 1; omega
    have h10 : x / pw (a.toNat + s.toNat) < pw (64 - (a.toNat + s.toNat)) := Nat.div_lt_of_lt_mul (by rw [hp]; omega)
    have h11 : pw (a.toNat + s.toNat) * (x / pw (a + s).toNat + 1) ≤ pw (a.toNat + s.toNat) * pw (64 - (a.toNat + s.toNat)) := Nat.mul_le_mul_left _ (by rw [e]; omega)
    omega
  refine eq_of_bits (n := 64) (bits64 _) hq (fun i hi => ?_)
  unfold setN inPart pw
  rw [bitsOf_bit, Nat.testBit_two_pow_mul_add _ (Nat.mod_lt _ (Nat.two_pow_pos _))]
  simp only [hi, decide_true, Bool.true_and]
  by_cases h2 : i < a.toNat
  · rw [if_pos h2, Nat.testBit_mod_two_pow, if_neg (by simp; omega)]; simp [h2]
  · rw [if_neg h2, Nat.testBit_two_pow_mul_add _ (Nat.mod_lt _ (Nat.two_pow_pos _))]
    by_cases h3 : i - a.toNat < s.toNat
    · rw [if_pos h3, if_pos (by simp; omega), Nat.testBit_mod_two_pow, bitAt_in _ _ (by omega) (by omega)]
      simp only [h3, decide_true, Bool.true_and]
      congr 1; omega
    · rw [if_neg h3, if_neg (by simp; omega), Nat.testBit_div_two_pow]
      congr 1; omega

theorem bitAt_div {x : Nat} {b : Nat} (hb : b < 64) : bitAt x b = decide (x / pw b % 2 = 1) := by
  rw [bitAt_nat x b hb]; unfold pw; rw [Nat.testBit_eq_decide_div_mod_eq]

theorem turn_set {x : Nat} {b : Nat} (on : Bool) : turnN x b on = setN x b 1 on.toNat := by
  unfold turnN setN
  refine bitsOf_congr _ (fun i hi => ?_)
  unfold inPart
  by_cases e : (i : Int) = b
  · rw [if_pos e, if_pos (by simp; omega), e]
    cases on <;> simp [bitAt]
  · rw [if_neg e, if_neg (by simp; omega)]

theorem top_bit {x : Nat} (hx : x < 18446744073709551616) : bitAt x 63 = decide (9223372036854775808 ≤ x) := by
  have h := bitAt_div (x := x) (b := 63) (by omega)
  rw [show ((63 : Nat) : Int) = 63 by rfl] at h
  rw [h, show pw 63 = 9223372036854775808 by rfl]
  rw [decide_eq_decide]; omega
theorem top_on {x : Nat} (hx : x < 18446744073709551616) : turnN x 63 true = x % 9223372036854775808 + 9223372036854775808 := by
  have h := turn_set (x := x) (b := 63) true
  rw [show ((63 : Nat) : Int) = 63 by rfl] at h
  rw [h, setN_div hx (by omega) (by omega) (by omega)]
  rw [show pw (63 : Int).toNat = 9223372036854775808 by rfl, show pw (1 : Int).toNat = 2 by rfl, show pw (63 + 1 : Int).toNat = 18446744073709551616 by rfl, show true.toNat = 1 by rfl, Nat.div_eq_of_lt hx]
  omega
/-- A part set above all that a word has. -/
theorem setN_top {x n : Nat} {a s : Int} (h0 : 0 ≤ a) (h1 : 0 ≤ s) (h : a + s ≤ 64) (hx : x < pw a.toNat) : setN x a s n = x + pw a.toNat * (n % pw s.toNat) := by
  have h2 : pw a.toNat ≤ pw (a + s).toNat := pw_le (by omega)
  have h3 : pw a.toNat ≤ 2 ^ 64 := pw_le (show a.toNat ≤ 64 by omega)
  rw [setN_div (by omega) h0 h1 h, Nat.div_eq_of_lt (show x < pw (a + s).toNat by omega), Nat.mod_eq_of_lt hx, Nat.mul_zero, Nat.zero_add, Nat.add_comm]
theorem top_turn {x : Nat} {b : Nat} (hb : b < 64) (hx : x < pw b) : turnN x b true = x + pw b := by
  rw [turn_set, setN_top (by omega) (by omega) (by omega) (by simpa using hx)]
  show x + pw b * (1 % 2) = _
  rw [show 1 % 2 = 1 by rfl, Nat.mul_one]
end Go.Proofs.YtdbankogamolcaaDoor
namespace Go.Proofs.YtdbankogamolcaaDoor
set_option linter.unusedSimpArgs false
set_option linter.unusedVariables false
open Go.ChangeShapes Go.WideShapes Go.ChangeAt Go.RowKit

theorem pw8 (i : Nat) : pw (8 * i) = 256 ^ i := by unfold pw; rw [Nat.pow_mul]
theorem toNat8 (i : Nat) : ((i : Int) * 8).toNat = 8 * i := by omega
/-- The i-th byte of a number. -/
theorem cut_byte {n : Nat} (hn : n < 18446744073709551616) {i : Nat} (hi : i < 8) : ((cutN n ((i : Int) * 8) 8 : Nat) : Int) = (n : Int) / 256 ^ i % 256 := by
  rw [cutN_div hn (by omega) (by omega) (by omega), toNat8, pw8]
  rw [show pw (8 : Int).toNat = 256 from rfl]
  simp
theorem cut_lt {n : Nat} (hn : n < 18446744073709551616) {i : Nat} (hi : i < 8) : cutN n ((i : Int) * 8) 8 < 256 := by
  have h := cut_byte hn hi
  have := Int.emod_lt_of_pos ((n : Int) / 256 ^ i) (b := 256) (by omega)
  omega
/-- What k bytes from i on tell, the lowest one first. -/
def rdN (L : List Int) (i : Nat) : Nat → Int
  | 0 => 0
  | k + 1 => rdN L i k + 256 ^ k * byN L (i + k)
theorem rdN_front (L : List Int) (i : Nat) : ∀ k, rdN L i (k + 1) = byN L i + 256 * rdN L (i + 1) k
  | 0 => by simp [rdN]
  | k + 1 => by
    have ih := rdN_front L i k
    show rdN L i (k + 1) + 256 ^ (k + 1) * byN L (i + (k + 1)) = byN L i + 256 * (rdN L (i + 1) k + 256 ^ k * byN L (i + 1 + k))
    rw [ih, show i + 1 + k = i + (k + 1) by omega, Int.pow_succ, Int.mul_add, ← Int.mul_assoc, Int.mul_comm (256 ^ k) 256]
    omega
theorem atN_rd (L : List Int) (i s : Nat) : ∀ j, j ≤ s → atN L i s j = rdN L (i + (s - j)) j
  | 0, _ => rfl
  | j + 1, hj => by
    have ih := atN_rd L i s j (by omega)
    rw [rdN_front]
    unfold atN byN
    rw [ih, show i + (s - (j + 1)) + 1 = i + (s - j) by omega, show i + (s - 1 - j) = i + (s - (j + 1)) by omega]
    omega
theorem rdN_all (L : List Int) (i s : Nat) : rdN L i s = atN L i s s := by rw [atN_rd L i s s (Nat.le_refl _), Nat.sub_self]; rfl
theorem rdN_bound {L : List Int} (h : Byt L) (i : Nat) : ∀ k, 0 ≤ rdN L i k ∧ rdN L i k < 256 ^ k
  | 0 => ⟨Int.le_refl _, by show (0 : Int) < 256 ^ 0; decide⟩
  | k + 1 => by
    have ih := rdN_bound h i k
    have hb := byN_bound h (i + k)
    have hp := pow256 k
    have h1 : 256 ^ k * byN L (i + k) ≤ 256 ^ k * 255 := Int.mul_le_mul_of_nonneg_left hb.2 (by omega)
    have h2 : 0 ≤ 256 ^ k * byN L (i + k) := Int.mul_nonneg (by omega) hb.1
    have h3 : (256 : Int) ^ (k + 1) = 256 ^ k * 255 + 256 ^ k := by rw [Int.pow_succ]; omega
    show 0 ≤ rdN L i k + 256 ^ k * byN L (i + k) ∧ rdN L i k + 256 ^ k * byN L (i + k) < 256 ^ (k + 1)
    omega
theorem pow256_le {k : Nat} (h : k ≤ 8) : (256 : Int) ^ k ≤ 18446744073709551616 := by
  match k, h with
  | 0, _ | 1, _ | 2, _ | 3, _ | 4, _ | 5, _ | 6, _ | 7, _ | 8, _ => decide
/-- One byte more is set. -/
theorem set_byte {n b : Nat} {k : Nat} (hk : k < 8) (hn : (n : Int) < 256 ^ k) (hb : b < 256) : ((setN n ((k : Int) * 8) 8 b : Nat) : Int) = n + 256 ^ k * b := by
  have hp : n < pw ((k : Int) * 8).toNat := by
    rw [toNat8, pw8]
    have : ((256 ^ k : Nat) : Int) = (256 : Int) ^ k := by simp
    omega
  rw [setN_top (by omega) (by omega) (by omega) hp, toNat8, pw8, show pw (8 : Int).toNat = 256 from rfl, Nat.mod_eq_of_lt hb]
  simp
/-- The same over a list of bytes. -/
theorem set_rd {L : List Int} (h : Byt L) (i k : Nat) (hk : k < 8) : ((setN (rdN L i k).toNat ((k : Int) * 8) 8 (byN L (i + k)).toNat : Nat) : Int) = rdN L i (k + 1) := by
  have h1 := rdN_bound h i k
  have h2 := byN_bound h (i + k)
  rw [set_byte hk (by omega) (by omega)]
  show _ = rdN L i k + 256 ^ k * byN L (i + k)
  rw [show (((rdN L i k).toNat : Nat) : Int) = rdN L i k by omega, show (((byN L (i + k)).toNat : Nat) : Int) = byN L (i + k) by omega]
/-- An entry's byte. -/
theorem ent_byte {th wh : Nat} (h1 : th < 8) (h2 : wh < 4) : setN (setN 0 0 3 th) 3 2 wh = th + 8 * wh := by
  have e1 : setN 0 0 3 th = th := by
    rw [setN_top (by omega) (by omega) (by omega) (by decide)]
    show 0 + 1 * (th % 8) = th
    omega
  rw [e1, setN_top (by omega) (by omega) (by omega) (show th < 8 from h1)]
  show th + 8 * (wh % 4) = _
  omega
theorem ent_cut {x : Nat} (hx : x < 256) : cutN x 0 3 = x % 8 ∧ cutN x 3 2 = x / 8 % 4 ∧ cutN x 5 3 = x / 32 := by
  refine ⟨?_, ?_, ?_⟩
  · rw [cutN_div (by omega) (by omega) (by omega) (by omega)]; show x / 1 % 8 = _; omega
  · rw [cutN_div (by omega) (by omega) (by omega) (by omega)]; show x / 8 % 4 = _; rfl
  · rw [cutN_div (by omega) (by omega) (by omega) (by omega)]; show x / 32 % 8 = _; omega
end Go.Proofs.YtdbankogamolcaaDoor
