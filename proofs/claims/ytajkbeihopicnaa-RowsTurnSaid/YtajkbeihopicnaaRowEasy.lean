/- rows.Rises; burnbagref10.At. -/
import Derived.Test.YtajkbeihopicnaaRowL
import Derived.BigQuiet
import Derived.Deep.DeepCutAuto
import Derived.Deep.QuietTactic
namespace Go.Proofs.Ytajkbeihopicnaa
open Go.ChangeShapes Go.WideShapes Go.ChangeAt Go.RowKit

/-- Of the first k rows each one's key is greater than the one's ahead. -/
def risesTo (L : List Rw) : Nat → Bool
  | 0 => true
  | k + 1 => risesTo L k && decide ((nth L k).k < (nth L (k + 1)).k)
def rises (L : List Rw) : Bool := risesTo L (L.length - 1)
theorem risesTo_false {L : List Rw} {k : Nat} (h : (nth L k).k ≥ (nth L (k + 1)).k) : ∀ {n : Nat}, k < n → risesTo L n = false
  | 0, hn => by omega
  | n + 1, hn => by
    unfold risesTo
    rcases Nat.lt_or_ge k n with hk | hk
    · rw [risesTo_false h hk]; rfl
    · obtain rfl : k = n := by omega
      rw [decide_eq_false (by omega), Bool.and_false]
theorem risesTo_step {L : List Rw} {k : Nat} (h : risesTo L k = true) (hk : (nth L k).k < (nth L (k + 1)).k) : risesTo L (k + 1) = true := by
  unfold risesTo; rw [h, decide_eq_true hk]; rfl

theorem rRises_any (A : Option Addr) (c : Nat) (L : List Rw) (hL : L.length ≤ 1000000) (w : World) (ha : Lies w A L) :
    Calls Try.prog 14 #[.slice A L.length c] w fun e w' => e = .returned (.bool (rises L)) ∧ Drew w w' := by
  have HA := Lib.hid ha
  clear ha
  unfold rises
  generalize hn : L.length = n at *
  go_enter Try.func14, Try.ntmps14
  go_wp2_with fail
  go_loopw [3] (fun i wr => ∃ k : Nat, i = .int .i64 ((k + 1 : Nat) : Int) ∧ (k + 1 ≤ n ∨ (k = 0 ∧ n = 0)) ∧ Drew w wr ∧ risesTo L k = true) (fun i _ => n - (intOf i).toNat)
  case atStart => exact ⟨0, rfl, by omega, Drew.refl _, rfl⟩
  case round =>
    obtain ⟨k, rfl, hk, hd, he⟩ := hrel
    by_cases hlt : k + 1 < n
    · obtain ⟨b1, off1, rfl, _, x1⟩ := (HA.out.keep (hd.below _)).at_ (by omega)
      obtain ⟨p0, _, _⟩ := x1 k (by omega)
      obtain ⟨q0, _, _⟩ := x1 (k + 1) (by omega)
      have HD := Lib.hid (hd.more 1)
      have HE := Lib.hid he
      clear x1 hd he
      have h1 : IntKind.i64.wrap (((k + 1 : Nat) : Int) - 1) = (k : Int) := by rw [IntKind.wrap_i64]; omega
      have h2 : IntKind.i64.wrap (((k + 1 : Nat) : Int) + 1) = ((k + 1 + 1 : Nat) : Int) := by rw [IntKind.wrap_i64]; omega
      have h3 : decide (((k + 1 : Nat) : Int) < (n : Int)) = true := decide_eq_true (by omega)
      by_cases hs : (nth L (k + 1)).k ≤ (nth L k).k
      · have h4 : decide ((nth L (k + 1)).k ≤ (nth L k).k) = true := decide_eq_true hs
        have HS := Lib.hid (risesTo_false (n := n - 1) (k := k) hs (by omega)); clear hs
        generalize hx1 : (nth L k).k = y1 at *
        generalize hx2 : (nth L (k + 1)).k = y2 at *
        clear hx1 hx2
        go_upto_region 4 with fail
        go_region
        go_wp2_with fail
        go_ret
        exact ⟨by rw [HS.out]; rfl, HD.out⟩
      · have h4 : decide ((nth L (k + 1)).k ≤ (nth L k).k) = false := decide_eq_false hs
        have HS := Lib.hid (risesTo_step (by exact HE.out) (by omega : (nth L k).k < (nth L (k + 1)).k)); clear hs
        generalize hx1 : (nth L k).k = y1 at *
        generalize hx2 : (nth L (k + 1)).k = y2 at *
        clear hx1 hx2
        go_upto_region 4 with fail
        go_region
        go_wp2_with fail
        go_roundw
        case rel => exact ⟨k + 1, by go_num, by omega, HD.out, HS.out⟩
        case measure => simp [intOf]; omega
    · have HD := Lib.hid hd; clear hd
      have HE := Lib.hid he; clear he
      have hk' : n - 1 = k := by omega
      have h3 : decide (((k + 1 : Nat) : Int) < (n : Int)) = false := decide_eq_false (by omega)
      go_wp2_with fail
      go_ret
      exact ⟨by rw [hk', HE.out]; rfl, HD.out⟩

theorem isAt_no {L : List Rw} {key : Int} (h : ∀ i, i < L.length → (nth L i).k < key) : findN L key = L.length ∧ isAt L key = false := by
  have hf : findN L key = L.length := findN_eq (Nat.le_refl _) h (fun hh => by omega)
  refine ⟨hf, ?_⟩
  unfold isAt
  rw [hf, decide_eq_false (by omega)]; rfl
theorem isAt_yes {L : List Rw} {key : Int} {k : Nat} (hk : k < L.length) (h : ∀ i, i < k → (nth L i).k < key) (hh : key ≤ (nth L k).k) : findN L key = k ∧ isAt L key = decide ((nth L k).k = key) := by
  have hf : findN L key = k := findN_eq (by omega) h (fun _ => hh)
  refine ⟨hf, ?_⟩
  unfold isAt
  rw [hf, decide_eq_true hk, Bool.true_and]

theorem rAtRef_any (A : Option Addr) (c : Nat) (L : List Rw) (hL : L.length ≤ 1000000) (key : Int) (w : World) (ha : Lies w A L) :
    Calls Try.prog 12 #[.slice A L.length c, .int .i64 key] w fun e w' => e = .returned (.tuple #[.int .i64 (findN L key), .bool (isAt L key)]) ∧ Drew w w' := by
  have HA := Lib.hid ha
  clear ha
  have HY := Lib.hid (fun k => @isAt_yes L key k)
  have HN := Lib.hid (@isAt_no L key)
  generalize hn : L.length = n at *
  go_enter Try.func12, Try.ntmps12
  go_wp2_with fail
  go_loopw [6] (fun i wr => ∃ k : Nat, i = .int .i64 k ∧ k ≤ n ∧ wr = w ∧ ∀ i, i < k → (nth L i).k < key) (fun i _ => n - (intOf i).toNat)
  case atStart => exact ⟨0, rfl, Nat.zero_le _, rfl, fun i hi => by omega⟩
  case round =>
    obtain ⟨k, rfl, hk, rfl, he⟩ := hrel
    by_cases hlt : k < n
    · obtain ⟨b1, off1, rfl, _, x1⟩ := HA.out.at_ (by omega)
      obtain ⟨p0, _, _⟩ := x1 k (by omega)
      have HE := Lib.hid he
      clear x1 he
      by_cases hs : key ≤ (nth L k).k
      · obtain ⟨e1, e2⟩ := HY.out k hlt HE.out hs
        have h4 : decide ((nth L k).k ≥ key) = true := decide_eq_true hs
        have HS := Lib.hid (And.intro e1 e2); clear hs e1 e2
        go_upto_region 5 with fail
        go_region
        go_wp2_with fail
        go_ret2
        exact ⟨by rw [HS.out.1, HS.out.2]; rfl, (Drew.refl _).more 1⟩
      · have h4 : decide ((nth L k).k ≥ key) = false := decide_eq_false hs
        have HS := Lib.hid (by omega : (nth L k).k < key); clear hs
        go_wp2_with fail
        go_roundw
        case rel => exact ⟨k + 1, by go_num, by omega, trivial, fun i hi => by
          rcases Nat.lt_or_ge i k with h | h
          · exact HE.out i h
          · obtain rfl : i = k := by omega
            exact HS.out⟩
        case measure => simp [intOf]; omega
    · obtain rfl : k = n := by omega
      obtain ⟨e1, e2⟩ := HN.out he
      have HS := Lib.hid (And.intro e1 e2); clear he e1 e2
      go_wp2_with fail
      go_ret2
      exact ⟨by rw [HS.out.1, HS.out.2]; rfl, Drew.refl _⟩
end Go.Proofs.Ytajkbeihopicnaa
