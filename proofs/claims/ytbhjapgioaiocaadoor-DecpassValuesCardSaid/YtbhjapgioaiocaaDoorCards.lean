/-
  DERIVED. GIVEN WITH THE SEED: THE CARDS: each row of YtbhjapgioaiocaaDoorRows.lean that lists a variable, with what it lists TIED to the program's text (the seventh form; the later family's looks); each row that meets fmt, with fmt's text TOLD by the authors' own Lean function (tested against real Go, not proved from fmt's source: count such statements apart). THE CARD IS WHAT COUNTS. Prove the row's statement (the work); the ties are given (YtbhjapgioaiocaaDoorTie.lean); close each card by the builder's one call (the guide's Derived/Test/ToyasCard.lean, 'card_holds'). Laid BY PROGRAM, IN A SANDBOX (cutbox-door.mjs). By AI agents, Wed Nov 11 2026. No macro, syntax, notation, axiom, sorry.
-/
import Derived.Test.YtbhjapgioaiocaaDoorRows
import GoSem.ClaimSeven
namespace Go.Proofs.YtbhjapgioaiocaaDoor
namespace Rows

/-- THE TIED CARD OF 'waveletlaw15.EncpassRuns'. -/
def encpassRunsCard : Claim7 := { stood := { row := encpassRunsRow, standIns := [], harness := (true, "31655e0052d526d94a896a4331dd04caf36a213a654f6f945e7eb9ace920e80f"), looks := false }, kinds := [], alts := [], laidByText := true, laidKinds := [.data, .data, .data], laidTests := true, laidLooks := .later }
def EncpassRunsCardSaid : Prop := Claim7.holds Tryd.pinned (.plain (OpenSpec.ofChange encpassRunsSpec)) encpassRunsCard

/-- THE TIED CARD OF 'waveletlaw15.EncpassSymbols'. -/
def encpassSymbolsCard : Claim7 := { stood := { row := encpassSymbolsRow, standIns := [], harness := (true, "31655e0052d526d94a896a4331dd04caf36a213a654f6f945e7eb9ace920e80f"), looks := false }, kinds := [], alts := [], laidByText := true, laidKinds := [.data, .data, .data], laidTests := true, laidLooks := .later }
def EncpassSymbolsCardSaid : Prop := Claim7.holds Tryd.pinned (.plain (OpenSpec.ofChange encpassSymbolsSpec)) encpassSymbolsCard

/-- THE TIED CARD OF 'waveletlaw15.EncpassPlanes'. -/
def encpassPlanesCard : Claim7 := { stood := { row := encpassPlanesRow, standIns := [], harness := (true, "31655e0052d526d94a896a4331dd04caf36a213a654f6f945e7eb9ace920e80f"), looks := false }, kinds := [], alts := [], laidByText := true, laidKinds := [.data, .data, .data], laidTests := true, laidLooks := .later }
def EncpassPlanesCardSaid : Prop := Claim7.holds Tryd.pinned (.plain (OpenSpec.ofChange encpassPlanesSpec)) encpassPlanesCard

/-- THE TIED CARD OF 'waveletlaw15.EncpassShape'. -/
def encpassShapeCard : Claim7 := { stood := { row := encpassShapeRow, standIns := [], harness := (true, "31655e0052d526d94a896a4331dd04caf36a213a654f6f945e7eb9ace920e80f"), looks := false }, kinds := [], alts := [], laidByText := true, laidKinds := [.data, .data, .data], laidTests := true, laidLooks := .later }
def EncpassShapeCardSaid : Prop := Claim7.holds Tryd.pinned (.plain (OpenSpec.ofChange encpassShapeSpec)) encpassShapeCard

/-- THE TIED CARD OF 'waveletlaw15.EncpassPrefix'. -/
def encpassPrefixCard : Claim7 := { stood := { row := encpassPrefixRow, standIns := [], harness := (true, "31655e0052d526d94a896a4331dd04caf36a213a654f6f945e7eb9ace920e80f"), looks := false }, kinds := [], alts := [], laidByText := true, laidKinds := [.data, .data, .data], laidTests := true, laidLooks := .later }
def EncpassPrefixCardSaid : Prop := Claim7.holds Tryd.pinned (.plain (OpenSpec.ofChange encpassPrefixSpec)) encpassPrefixCard

/-- THE TIED CARD OF 'waveletlaw15.EncpassCovers'. -/
def encpassCoversCard : Claim7 := { stood := { row := encpassCoversRow, standIns := [], harness := (true, "31655e0052d526d94a896a4331dd04caf36a213a654f6f945e7eb9ace920e80f"), looks := false }, kinds := [], alts := [], laidByText := true, laidKinds := [.data, .data, .data], laidTests := true, laidLooks := .later }
def EncpassCoversCardSaid : Prop := Claim7.holds Tryd.pinned (.plain (OpenSpec.ofChange encpassCoversSpec)) encpassCoversCard

/-- THE TIED CARD OF 'waveletlaw15.EncpassNobody'. -/
def encpassNobodyCard : Claim7 := { stood := { row := encpassNobodyRow, standIns := [], harness := (true, "31655e0052d526d94a896a4331dd04caf36a213a654f6f945e7eb9ace920e80f"), looks := false }, kinds := [], alts := [], laidByText := true, laidKinds := [.data, .data, .data], laidTests := true, laidLooks := .later }
def EncpassNobodyCardSaid : Prop := Claim7.holds Tryd.pinned (.plain (OpenSpec.ofChange encpassNobodySpec)) encpassNobodyCard

/-- THE TIED CARD OF 'waveletlaw16.DecpassValues'. -/
def decpassValuesCard : Claim7 := { stood := { row := decpassValuesRow, standIns := [], harness := (true, "31655e0052d526d94a896a4331dd04caf36a213a654f6f945e7eb9ace920e80f"), looks := false }, kinds := [], alts := [], laidByText := true, laidKinds := [.data, .data, .data], laidTests := true, laidLooks := .later }
def DecpassValuesCardSaid : Prop := Claim7.holds Tryd.pinned (.plain (OpenSpec.ofChange decpassValuesSpec)) decpassValuesCard

/-- THE TIED CARD OF 'waveletlaw16.DecpassReturns'. -/
def decpassReturnsCard : Claim7 := { stood := { row := decpassReturnsRow, standIns := [], harness := (true, "31655e0052d526d94a896a4331dd04caf36a213a654f6f945e7eb9ace920e80f"), looks := false }, kinds := [], alts := [], laidByText := true, laidKinds := [.data, .data, .data], laidTests := true, laidLooks := .later }
def DecpassReturnsCardSaid : Prop := Claim7.holds Tryd.pinned (.plain (OpenSpec.ofChange decpassReturnsSpec)) decpassReturnsCard

/-- THE TIED CARD OF 'waveletlaw16.DecpassPrefix'. -/
def decpassPrefixCard : Claim7 := { stood := { row := decpassPrefixRow, standIns := [], harness := (true, "31655e0052d526d94a896a4331dd04caf36a213a654f6f945e7eb9ace920e80f"), looks := false }, kinds := [], alts := [], laidByText := true, laidKinds := [.data, .data, .data], laidTests := true, laidLooks := .later }
def DecpassPrefixCardSaid : Prop := Claim7.holds Tryd.pinned (.plain (OpenSpec.ofChange decpassPrefixSpec)) decpassPrefixCard

/-- THE TIED CARD OF 'waveletlaw16.DecpassRejects'. -/
def decpassRejectsCard : Claim7 := { stood := { row := decpassRejectsRow, standIns := [], harness := (true, "31655e0052d526d94a896a4331dd04caf36a213a654f6f945e7eb9ace920e80f"), looks := false }, kinds := [], alts := [], laidByText := true, laidKinds := [.data, .data, .data], laidTests := true, laidLooks := .later }
def DecpassRejectsCardSaid : Prop := Claim7.holds Tryd.pinned (.plain (OpenSpec.ofChange decpassRejectsSpec)) decpassRejectsCard

/-- THE TIED CARD OF 'waveletlaw16.DecpassNobody'. -/
def decpassNobodyCard : Claim7 := { stood := { row := decpassNobodyRow, standIns := [], harness := (true, "31655e0052d526d94a896a4331dd04caf36a213a654f6f945e7eb9ace920e80f"), looks := false }, kinds := [], alts := [], laidByText := true, laidKinds := [.data, .data, .data], laidTests := true, laidLooks := .later }
def DecpassNobodyCardSaid : Prop := Claim7.holds Tryd.pinned (.plain (OpenSpec.ofChange decpassNobodySpec)) decpassNobodyCard

/-- THE SECOND FORM's CARD OF 'waveletlaw15.EncpassRuns'. -/
def encpassRunsUptoCard : Claim7 := { stood := { row := encpassRunsUptoRow, standIns := [], harness := (true, "31655e0052d526d94a896a4331dd04caf36a213a654f6f945e7eb9ace920e80f"), looks := false }, kinds := [], alts := [], laidByText := true, laidKinds := [.data, .data, .data], laidTests := true, laidLooks := .later }
def EncpassRunsUptoCardSaid : Prop := Claim7.holds Tryd.pinned (.plain (OpenSpec.upto encpassRunsSpec)) encpassRunsUptoCard

/-- THE SECOND FORM's CARD OF 'waveletlaw15.EncpassSymbols'. -/
def encpassSymbolsUptoCard : Claim7 := { stood := { row := encpassSymbolsUptoRow, standIns := [], harness := (true, "31655e0052d526d94a896a4331dd04caf36a213a654f6f945e7eb9ace920e80f"), looks := false }, kinds := [], alts := [], laidByText := true, laidKinds := [.data, .data, .data], laidTests := true, laidLooks := .later }
def EncpassSymbolsUptoCardSaid : Prop := Claim7.holds Tryd.pinned (.plain (OpenSpec.upto encpassSymbolsSpec)) encpassSymbolsUptoCard

/-- THE SECOND FORM's CARD OF 'waveletlaw15.EncpassPlanes'. -/
def encpassPlanesUptoCard : Claim7 := { stood := { row := encpassPlanesUptoRow, standIns := [], harness := (true, "31655e0052d526d94a896a4331dd04caf36a213a654f6f945e7eb9ace920e80f"), looks := false }, kinds := [], alts := [], laidByText := true, laidKinds := [.data, .data, .data], laidTests := true, laidLooks := .later }
def EncpassPlanesUptoCardSaid : Prop := Claim7.holds Tryd.pinned (.plain (OpenSpec.upto encpassPlanesSpec)) encpassPlanesUptoCard

/-- THE SECOND FORM's CARD OF 'waveletlaw15.EncpassShape'. -/
def encpassShapeUptoCard : Claim7 := { stood := { row := encpassShapeUptoRow, standIns := [], harness := (true, "31655e0052d526d94a896a4331dd04caf36a213a654f6f945e7eb9ace920e80f"), looks := false }, kinds := [], alts := [], laidByText := true, laidKinds := [.data, .data, .data], laidTests := true, laidLooks := .later }
def EncpassShapeUptoCardSaid : Prop := Claim7.holds Tryd.pinned (.plain (OpenSpec.upto encpassShapeSpec)) encpassShapeUptoCard

/-- THE SECOND FORM's CARD OF 'waveletlaw15.EncpassPrefix'. -/
def encpassPrefixUptoCard : Claim7 := { stood := { row := encpassPrefixUptoRow, standIns := [], harness := (true, "31655e0052d526d94a896a4331dd04caf36a213a654f6f945e7eb9ace920e80f"), looks := false }, kinds := [], alts := [], laidByText := true, laidKinds := [.data, .data, .data], laidTests := true, laidLooks := .later }
def EncpassPrefixUptoCardSaid : Prop := Claim7.holds Tryd.pinned (.plain (OpenSpec.upto encpassPrefixSpec)) encpassPrefixUptoCard

/-- THE SECOND FORM's CARD OF 'waveletlaw15.EncpassCovers'. -/
def encpassCoversUptoCard : Claim7 := { stood := { row := encpassCoversUptoRow, standIns := [], harness := (true, "31655e0052d526d94a896a4331dd04caf36a213a654f6f945e7eb9ace920e80f"), looks := false }, kinds := [], alts := [], laidByText := true, laidKinds := [.data, .data, .data], laidTests := true, laidLooks := .later }
def EncpassCoversUptoCardSaid : Prop := Claim7.holds Tryd.pinned (.plain (OpenSpec.upto encpassCoversSpec)) encpassCoversUptoCard

/-- THE SECOND FORM's CARD OF 'waveletlaw15.EncpassNobody'. -/
def encpassNobodyUptoCard : Claim7 := { stood := { row := encpassNobodyUptoRow, standIns := [], harness := (true, "31655e0052d526d94a896a4331dd04caf36a213a654f6f945e7eb9ace920e80f"), looks := false }, kinds := [], alts := [], laidByText := true, laidKinds := [.data, .data, .data], laidTests := true, laidLooks := .later }
def EncpassNobodyUptoCardSaid : Prop := Claim7.holds Tryd.pinned (.plain (OpenSpec.upto encpassNobodySpec)) encpassNobodyUptoCard

/-- THE SECOND FORM's CARD OF 'waveletlaw16.DecpassValues'. -/
def decpassValuesUptoCard : Claim7 := { stood := { row := decpassValuesUptoRow, standIns := [], harness := (true, "31655e0052d526d94a896a4331dd04caf36a213a654f6f945e7eb9ace920e80f"), looks := false }, kinds := [], alts := [], laidByText := true, laidKinds := [.data, .data, .data], laidTests := true, laidLooks := .later }
def DecpassValuesUptoCardSaid : Prop := Claim7.holds Tryd.pinned (.plain (OpenSpec.upto decpassValuesSpec)) decpassValuesUptoCard

/-- THE SECOND FORM's CARD OF 'waveletlaw16.DecpassReturns'. -/
def decpassReturnsUptoCard : Claim7 := { stood := { row := decpassReturnsUptoRow, standIns := [], harness := (true, "31655e0052d526d94a896a4331dd04caf36a213a654f6f945e7eb9ace920e80f"), looks := false }, kinds := [], alts := [], laidByText := true, laidKinds := [.data, .data, .data], laidTests := true, laidLooks := .later }
def DecpassReturnsUptoCardSaid : Prop := Claim7.holds Tryd.pinned (.plain (OpenSpec.upto decpassReturnsSpec)) decpassReturnsUptoCard

/-- THE SECOND FORM's CARD OF 'waveletlaw16.DecpassPrefix'. -/
def decpassPrefixUptoCard : Claim7 := { stood := { row := decpassPrefixUptoRow, standIns := [], harness := (true, "31655e0052d526d94a896a4331dd04caf36a213a654f6f945e7eb9ace920e80f"), looks := false }, kinds := [], alts := [], laidByText := true, laidKinds := [.data, .data, .data], laidTests := true, laidLooks := .later }
def DecpassPrefixUptoCardSaid : Prop := Claim7.holds Tryd.pinned (.plain (OpenSpec.upto decpassPrefixSpec)) decpassPrefixUptoCard

/-- THE SECOND FORM's CARD OF 'waveletlaw16.DecpassRejects'. -/
def decpassRejectsUptoCard : Claim7 := { stood := { row := decpassRejectsUptoRow, standIns := [], harness := (true, "31655e0052d526d94a896a4331dd04caf36a213a654f6f945e7eb9ace920e80f"), looks := false }, kinds := [], alts := [], laidByText := true, laidKinds := [.data, .data, .data], laidTests := true, laidLooks := .later }
def DecpassRejectsUptoCardSaid : Prop := Claim7.holds Tryd.pinned (.plain (OpenSpec.upto decpassRejectsSpec)) decpassRejectsUptoCard

/-- THE SECOND FORM's CARD OF 'waveletlaw16.DecpassNobody'. -/
def decpassNobodyUptoCard : Claim7 := { stood := { row := decpassNobodyUptoRow, standIns := [], harness := (true, "31655e0052d526d94a896a4331dd04caf36a213a654f6f945e7eb9ace920e80f"), looks := false }, kinds := [], alts := [], laidByText := true, laidKinds := [.data, .data, .data], laidTests := true, laidLooks := .later }
def DecpassNobodyUptoCardSaid : Prop := Claim7.holds Tryd.pinned (.plain (OpenSpec.upto decpassNobodySpec)) decpassNobodyUptoCard
end Rows
end Go.Proofs.YtbhjapgioaiocaaDoor
