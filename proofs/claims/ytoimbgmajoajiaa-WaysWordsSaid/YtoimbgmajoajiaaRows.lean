/-
  No cell of these rows narrows 'for every input' (looked for: loops, veiled, ifaces, maps, wideKeys, modest, calm, conditions, laid).
  DERIVED. THE GIVEN ROWS OF THIS SEAT. 3 by the template 'for every input the law returns true; each argument reads behind the call as it read before'; 0 by the template 'total and deterministic' (their statements: YtoimbgmajoajiaaTotals.lean).
  GIVEN WITH THE SEED: the statements are not yours to turn. If you find one false, say at which input.
  Laid BY PROGRAM, IN A SANDBOX (cutbox-rows.mjs): the forced cells as the released guide's own fill.sh prints them over the translation e29268e9ddaa6c5d… (all of the seat's roots in one cut). By AI agents, Wed Nov 11 2026. No macro, syntax, notation, axiom, sorry.
-/
import Derived.Test.YtoimbgmajoajiaaChecked
import GoSem.Claim
import GoSem.ClaimJoined
import GoSem.ClaimMapViews
import Derived.JoinedTies
import Derived.KernelRfl
namespace Go.Proofs.Ytoimbgmajoajiaa
/- THE CELL 'sum', in the pinned program and in every row, IS THE sha256 OF THE DUMP (.gsa) THAT YtoimbgmajoajiaaProg.lean LOADS. Nothing in Lean hashes anything: it is a label: what it is worth is what the hold of that sum in a sandbox is worth. -/
noncomputable def Try.pinned : Pinned := { name := "ytoimbgmajoajiaa", sum := "e29268e9ddaa6c5d3bfab1fcd17312d0bac77dc52de78a5eac5f12183b246fb9", checked := Try.checked }
namespace Rows
def none {H : Type} : Left H := { results := [], args := [] }

/-- 'burnbaglaw11.WaysWords': WHATEVER THE INPUT: true; the input reads as it did. -/
def waysWordsSpec : ChangeSpec := { name := "waysWords", fn := fun _ => fun
  | [d1, d2] => { results := [.lit (.bool true)], args := [d1, d2] }
  | _ => none }
def waysWordsRow : OpenClaim := { program := "ytoimbgmajoajiaa", sum := "e29268e9ddaa6c5d3bfab1fcd17312d0bac77dc52de78a5eac5f12183b246fb9", func := "burnbag/burnbaglaw11.WaysWords", spec := "waysWords", apart := false }
def WaysWordsSaid : Prop := waysWordsRow.holds Try.pinned (OpenSpec.ofChange waysWordsSpec)

/-- ITS FALSE NEIGHBOUR: 'it returns false'. Refute it at one input. -/
def waysWordsWrong : ChangeSpec := { name := "waysWords", fn := fun _ => fun
  | [d1, d2] => { results := [.lit (.bool false)], args := [d1, d2] }
  | _ => none }
def WaysWordsWrongFalsely : Prop := waysWordsRow.holds Try.pinned (OpenSpec.ofChange waysWordsWrong)

/-- 'burnbaglaw11.WaysTurn': WHATEVER THE INPUT: true; the input reads as it did. -/
def waysTurnSpec : ChangeSpec := { name := "waysTurn", fn := fun _ => fun
  | [d1, d2, d3] => { results := [.lit (.bool true)], args := [d1, d2, d3] }
  | _ => none }
def waysTurnRow : OpenClaim := { program := "ytoimbgmajoajiaa", sum := "e29268e9ddaa6c5d3bfab1fcd17312d0bac77dc52de78a5eac5f12183b246fb9", func := "burnbag/burnbaglaw11.WaysTurn", spec := "waysTurn", apart := false }
def WaysTurnSaid : Prop := waysTurnRow.holds Try.pinned (OpenSpec.ofChange waysTurnSpec)

/-- ITS FALSE NEIGHBOUR: 'it returns false'. Refute it at one input. -/
def waysTurnWrong : ChangeSpec := { name := "waysTurn", fn := fun _ => fun
  | [d1, d2, d3] => { results := [.lit (.bool false)], args := [d1, d2, d3] }
  | _ => none }
def WaysTurnWrongFalsely : Prop := waysTurnRow.holds Try.pinned (OpenSpec.ofChange waysTurnWrong)

/-- 'burnbaglaw11.WaysGives': WHATEVER THE INPUT: true; the input reads as it did. -/
def waysGivesSpec : ChangeSpec := { name := "waysGives", fn := fun _ => fun
  | [d1, d2] => { results := [.lit (.bool true)], args := [d1, d2] }
  | _ => none }
def waysGivesRow : OpenClaim := { program := "ytoimbgmajoajiaa", sum := "e29268e9ddaa6c5d3bfab1fcd17312d0bac77dc52de78a5eac5f12183b246fb9", func := "burnbag/burnbaglaw11.WaysGives", spec := "waysGives", apart := false }
def WaysGivesSaid : Prop := waysGivesRow.holds Try.pinned (OpenSpec.ofChange waysGivesSpec)

/-- ITS FALSE NEIGHBOUR: 'it returns false'. Refute it at one input. -/
def waysGivesWrong : ChangeSpec := { name := "waysGives", fn := fun _ => fun
  | [d1, d2] => { results := [.lit (.bool false)], args := [d1, d2] }
  | _ => none }
def WaysGivesWrongFalsely : Prop := waysGivesRow.holds Try.pinned (OpenSpec.ofChange waysGivesWrong)

/- THE SECOND FORM. 'bulk': how many values and letters a reading holds, each counted each time it is reached (what is shared counts as often as it is met; a slice's spare places count too). A statement '..UptoSaid' is the law's where the arguments, and the package variables that the reading takes, are together of bulk at most 1048576: NARROWER than '..Said'. Prove '..Said' where nothing that the law and all that it calls make is longer than what came in: it says more and counts as full. Else prove '..UptoSaid'. A law counts once. -/
mutual
def uptoBulk {H : Type} : DataW H → Nat
  | .lit (.string bytes) => bytes.length + 1
  | .lit _ => 1
  | .nil => 1
  | .ptr d => uptoBulk d + 1
  | .slice elems spare => uptoBulkAll elems + uptoBulkAll spare + 1
  | .agg parts => uptoBulkAll parts + 1
  | .iface _ d => uptoBulk d + 1
  | .map entries => uptoBulkEntries entries + 1
  | .held _ => 1
def uptoBulkAll {H : Type} : List (DataW H) → Nat
  | [] => 0
  | d :: r => uptoBulk d + uptoBulkAll r
def uptoBulkEntries {H : Type} : List (Lit × DataW H) → Nat
  | [] => 0
  | x :: r => uptoBulkEntry x + uptoBulkEntries r
def uptoBulkEntry {H : Type} : Lit × DataW H → Nat
  | (.string bytes, d) => bytes.length + uptoBulk d + 1
  | (_, d) => uptoBulk d + 1
 end
def uptoSmall : (H : Type) → List (DataW H) → Bool := fun _ ds => decide (uptoBulkAll ds ≤ 1048576)
def OpenSpec.upto (s : _root_.Go.ChangeSpec) : _root_.Go.OpenSpec := { _root_.Go.OpenSpec.ofChange s with cond := some uptoSmall }

/-- 'burnbaglaw11.WaysWords', WHERE WHAT IT READS IS OF BULK AT MOST 1048576: true; the input reads as it did. -/
def waysWordsUptoRow : OpenClaim := { program := "ytoimbgmajoajiaa", sum := "e29268e9ddaa6c5d3bfab1fcd17312d0bac77dc52de78a5eac5f12183b246fb9", func := "burnbag/burnbaglaw11.WaysWords", spec := "waysWords", apart := false, narrowed := true }
def WaysWordsUptoSaid : Prop := waysWordsUptoRow.holds Try.pinned (OpenSpec.upto waysWordsSpec)

/-- 'burnbaglaw11.WaysTurn', WHERE WHAT IT READS IS OF BULK AT MOST 1048576: true; the input reads as it did. -/
def waysTurnUptoRow : OpenClaim := { program := "ytoimbgmajoajiaa", sum := "e29268e9ddaa6c5d3bfab1fcd17312d0bac77dc52de78a5eac5f12183b246fb9", func := "burnbag/burnbaglaw11.WaysTurn", spec := "waysTurn", apart := false, narrowed := true }
def WaysTurnUptoSaid : Prop := waysTurnUptoRow.holds Try.pinned (OpenSpec.upto waysTurnSpec)

/-- 'burnbaglaw11.WaysGives', WHERE WHAT IT READS IS OF BULK AT MOST 1048576: true; the input reads as it did. -/
def waysGivesUptoRow : OpenClaim := { program := "ytoimbgmajoajiaa", sum := "e29268e9ddaa6c5d3bfab1fcd17312d0bac77dc52de78a5eac5f12183b246fb9", func := "burnbag/burnbaglaw11.WaysGives", spec := "waysGives", apart := false, narrowed := true }
def WaysGivesUptoSaid : Prop := waysGivesUptoRow.holds Try.pinned (OpenSpec.upto waysGivesSpec)

end Rows
end Go.Proofs.Ytoimbgmajoajiaa
