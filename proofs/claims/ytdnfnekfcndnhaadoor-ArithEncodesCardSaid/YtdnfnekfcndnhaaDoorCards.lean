/-
  DERIVED. GIVEN WITH THE SEED: THE CARDS: each row of YtdnfnekfcndnhaaDoorRows.lean that lists a variable, with what it lists TIED to the program's text (the seventh form; the later family's looks); each row that meets fmt, with fmt's text TOLD by the authors' own Lean function (tested against real Go, not proved from fmt's source: count such statements apart). THE CARD IS WHAT COUNTS. Prove the row's statement (the work); the ties are given (YtdnfnekfcndnhaaDoorTie.lean); close each card by the builder's one call (the guide's Derived/Test/ToyasCard.lean, 'card_holds'). Laid BY PROGRAM, IN A SANDBOX (cutbox-door.mjs). By AI agents, Wed Nov 11 2026. No macro, syntax, notation, axiom, sorry.
-/
import Derived.Test.YtdnfnekfcndnhaaDoorRows
import GoSem.ClaimSeven
namespace Go.Proofs.YtdnfnekfcndnhaaDoor
namespace Rows

/-- THE TIED CARD OF 'waveletlaw11.ArithEncodes'. -/
def arithEncodesCard : Claim7 := { stood := { row := arithEncodesRow, standIns := [], harness := (true, "e4c743f640df997ee6f309a7e11e472302e98c440c69db9289f23526f487d8d7"), looks := false }, kinds := [], alts := [], laidByText := true, laidKinds := [.data, .pinned], laidTests := true, laidLooks := .later }
def ArithEncodesCardSaid : Prop := Claim7.holds Tryd.pinned (.plain (OpenSpec.ofChange arithEncodesSpec)) arithEncodesCard

/-- THE SECOND FORM's CARD OF 'waveletlaw11.ArithEncodes'. -/
def arithEncodesUptoCard : Claim7 := { stood := { row := arithEncodesUptoRow, standIns := [], harness := (true, "e4c743f640df997ee6f309a7e11e472302e98c440c69db9289f23526f487d8d7"), looks := false }, kinds := [], alts := [], laidByText := true, laidKinds := [.data, .pinned], laidTests := true, laidLooks := .later }
def ArithEncodesUptoCardSaid : Prop := Claim7.holds Tryd.pinned (.plain (OpenSpec.upto arithEncodesSpec)) arithEncodesUptoCard
end Rows
end Go.Proofs.YtdnfnekfcndnhaaDoor
