/-
  DERIVED. GIVEN WITH THE SEED: THE CARDS: each row of YthhheeocanbkiaaDoorRows.lean that lists a variable, with what it lists TIED to the program's text (the seventh form; the later family's looks); each row that meets fmt, with fmt's text TOLD by the authors' own Lean function (tested against real Go, not proved from fmt's source: count such statements apart). THE CARD IS WHAT COUNTS. Prove the row's statement (the work); the ties are given (YthhheeocanbkiaaDoorTie.lean); close each card by the builder's one call (the guide's Derived/Test/ToyasCard.lean, 'card_holds'). Laid BY PROGRAM, IN A SANDBOX (cutbox-door.mjs). By AI agents, Wed Nov 11 2026. No macro, syntax, notation, axiom, sorry.
-/
import Derived.Test.YthhheeocanbkiaaDoorRows
import GoSem.ClaimSeven
namespace Go.Proofs.YthhheeocanbkiaaDoor
namespace Rows

/-- THE TIED CARD OF 'burnbaglaw09.CallWords'. -/
def callWordsCard : Claim7 := { stood := { row := callWordsRow, standIns := [], harness := (true, "143bd53a8b0858ce105fd656fcf67d9d909a67c77bfcca3894a66804fc4455a9"), looks := true }, kinds := [], alts := [], laidByText := true, laidKinds := [.data, .data, .data], laidTests := true, laidLooks := .later }
def CallWordsCardSaid : Prop := Claim7.holds Tryd.pinned (.plain (OpenSpec.ofChange callWordsSpec)) callWordsCard

/-- THE TIED CARD OF 'burnbaglaw09.CallFits'. -/
def callFitsCard : Claim7 := { stood := { row := callFitsRow, standIns := [], harness := (true, "143bd53a8b0858ce105fd656fcf67d9d909a67c77bfcca3894a66804fc4455a9"), looks := true }, kinds := [], alts := [], laidByText := true, laidKinds := [.data, .data, .data], laidTests := true, laidLooks := .later }
def CallFitsCardSaid : Prop := Claim7.holds Tryd.pinned (.plain (OpenSpec.ofChange callFitsSpec)) callFitsCard

/-- THE SECOND FORM's CARD OF 'burnbaglaw09.CallWords'. -/
def callWordsUptoCard : Claim7 := { stood := { row := callWordsUptoRow, standIns := [], harness := (true, "143bd53a8b0858ce105fd656fcf67d9d909a67c77bfcca3894a66804fc4455a9"), looks := true }, kinds := [], alts := [], laidByText := true, laidKinds := [.data, .data, .data], laidTests := true, laidLooks := .later }
def CallWordsUptoCardSaid : Prop := Claim7.holds Tryd.pinned (.plain (OpenSpec.upto callWordsSpec)) callWordsUptoCard

/-- THE SECOND FORM's CARD OF 'burnbaglaw09.CallFits'. -/
def callFitsUptoCard : Claim7 := { stood := { row := callFitsUptoRow, standIns := [], harness := (true, "143bd53a8b0858ce105fd656fcf67d9d909a67c77bfcca3894a66804fc4455a9"), looks := true }, kinds := [], alts := [], laidByText := true, laidKinds := [.data, .data, .data], laidTests := true, laidLooks := .later }
def CallFitsUptoCardSaid : Prop := Claim7.holds Tryd.pinned (.plain (OpenSpec.upto callFitsSpec)) callFitsUptoCard
end Rows
end Go.Proofs.YthhheeocanbkiaaDoor
