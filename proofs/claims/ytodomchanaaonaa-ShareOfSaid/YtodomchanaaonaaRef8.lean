/- The document's answers of layer 8: numbers in decimal, names of codes. -/
import Derived.Test.YtodomchanaaonaaRow
import Derived.WalkKit
import Derived.Lib.Hide
import Derived.WalkSpells
import Derived.Deep.DeepCutAuto
import Derived.Deep.WholeRow
import Derived.Laws.Cover4
namespace Go.Proofs.Ytodomchanaaonaa
open Go.ChangeShapes Go.WideShapes Go.RowKit

/-- Bytes as a string. -/
def sB (l : List UInt8) : ByteArray := ⟨l.toArray⟩
theorem sB_append (a b : List UInt8) : sB a ++ sB b = sB (a ++ b) := by
  unfold sB
  ext1
  simp
theorem sB_size (l : List UInt8) : (sB l).size = l.length := by simp [sB, ByteArray.size]
theorem enc_ascii (n : Nat) (h : n < 128) : Utf8.encode (n : Int) = sB [UInt8.ofNat n] := by
  have hv : Utf8.valid (n : Int) = true := by unfold Utf8.valid; simp; omega
  unfold Utf8.encode
  rw [if_pos hv, Int.toNat_natCast]
  show (if n < 128 then _ else _) = _
  rw [if_pos h]
  rfl
/-- A number's digits. -/
def decN (n : Nat) : List UInt8 := if n < 10 then [UInt8.ofNat (48 + n)] else decN (n / 10) ++ [UInt8.ofNat (48 + n % 10)]
termination_by n
def numL (n : Int) : List UInt8 := bif decide (n < 0) then 45 :: decN n.natAbs else decN n.natAbs
theorem decN_small {n : Nat} (h : n < 10) : decN n = [UInt8.ofNat (48 + n)] := by rw [decN, if_pos h]
theorem decN_more {n : Nat} (h : ¬ n < 10) : decN n = decN (n / 10) ++ [UInt8.ofNat (48 + n % 10)] := by rw [decN, if_neg h]

theorem dec_len : ∀ (k n : Nat), n < 10 ^ (k + 1) → (decN n).length ≤ k + 1
  | 0, n, h => by rw [decN_small (by simpa using h)]; simp
  | k + 1, n, h => by
    by_cases hs : n < 10
    · rw [decN_small hs]; simp
    · rw [decN_more (n := n) hs]
      have := dec_len k (n / 10) (by rw [Nat.pow_succ] at h; omega)
      simp
      omega
theorem dec_size (n : Nat) (h : n ≤ 9223372036854775808) : (sB (decN n)).size ≤ 20 := by
  rw [sB_size]
  exact dec_len 19 n (by omega)
theorem numL_min : sB (numL (-9223372036854775808)) = ⟨#[45, 57, 50, 50, 51, 51, 55, 50, 48, 51, 54, 56, 53, 52, 55, 55, 53, 56, 48, 56]⟩ := by
  unfold numL
  rw [decide_eq_true (by omega)]
  show sB (45 :: decN 9223372036854775808) = _
  iterate 18 rw [decN_more (by decide)]
  rw [decN_small (by decide)]
  rfl
/-- What codes are called. -/
def namesL : List (List UInt8) := [[111, 107], [97, 114, 103], [114, 97, 110, 103, 101], [102, 111, 114, 109], [101, 110, 100], [108, 111, 110, 103], [110, 111, 110, 101], [101, 120, 105, 115, 116, 115], [102, 117, 108, 108], [108, 105, 109, 98, 111], [113, 117, 111, 116, 97], [115, 116, 97, 108, 101], [112, 111, 108, 105, 99, 121], [114, 101, 116, 114, 121], [98, 97, 100], [119, 111, 114, 110]]
def nameL (c : Int) : List UInt8 := bif decide (0 ≤ c ∧ c < 16) then namesL.getD c.toNat [] else [119, 104, 97, 116]
def namesF : Nat → Value := fun i => .string (sB (namesL.getD i []))
theorem namesF_one (n : Nat) : (rowOf n namesF).all (·.oneCell') = true := rowOf_one fun _ => rfl
theorem names_fold : #[Value.string ⟨#[111, 107]⟩, .string ⟨#[97, 114, 103]⟩, .string ⟨#[114, 97, 110, 103, 101]⟩, .string ⟨#[102, 111, 114, 109]⟩, .string ⟨#[101, 110, 100]⟩, .string ⟨#[108, 111, 110, 103]⟩, .string ⟨#[110, 111, 110, 101]⟩, .string ⟨#[101, 120, 105, 115, 116, 115]⟩, .string ⟨#[102, 117, 108, 108]⟩, .string ⟨#[108, 105, 109, 98, 111]⟩, .string ⟨#[113, 117, 111, 116, 97]⟩, .string ⟨#[115, 116, 97, 108, 101]⟩, .string ⟨#[112, 111, 108, 105, 99, 121]⟩, .string ⟨#[114, 101, 116, 114, 121]⟩, .string ⟨#[98, 97, 100]⟩, .string ⟨#[119, 111, 114, 110]⟩] = rowOf 16 namesF := rfl
end Go.Proofs.Ytodomchanaaonaa
