/-
  DERIVED. GIVEN WITH THE SEED: THE CARDS: each row of YtklchodbnjebnaaDoorRows.lean that lists a variable, with what it lists TIED to the program's text (the seventh form; the later family's looks); each row that meets fmt, with fmt's text TOLD by the authors' own Lean function (tested against real Go, not proved from fmt's source: count such statements apart). THE CARD IS WHAT COUNTS. Prove the row's statement (the work); the ties are given (YtklchodbnjebnaaDoorTie.lean); close each card by the builder's one call (the guide's Derived/Test/ToyasCard.lean, 'card_holds'). Laid BY PROGRAM, IN A SANDBOX (cutbox-door.mjs). By AI agents, Wed Nov 11 2026. No macro, syntax, notation, axiom, sorry.
-/
import Derived.Test.YtklchodbnjebnaaDoorRows
import GoSem.ClaimSeven
namespace Go.Proofs.YtklchodbnjebnaaDoor
namespace Rows

/-- THE TIED CARD OF 'waveletlaw17.BlockencValidates'. -/
def blockencValidatesCard : Claim7 := { stood := { row := blockencValidatesRow, standIns := [], harness := (true, "a38d0225384943072c19c7f715e82b59d70b0a1dee068f8c4b6f5cca6c85f3a1"), looks := false }, kinds := [], alts := [], laidByText := true, laidKinds := [.data, .data, .data], laidTests := true, laidLooks := .later }
def BlockencValidatesCardSaid : Prop := Claim7.holds Tryd.pinned (.plain (OpenSpec.ofChange blockencValidatesSpec)) blockencValidatesCard

/-- THE TIED CARD OF 'waveletlaw17.BlockencTruncates'. -/
def blockencTruncatesCard : Claim7 := { stood := { row := blockencTruncatesRow, standIns := [], harness := (true, "a38d0225384943072c19c7f715e82b59d70b0a1dee068f8c4b6f5cca6c85f3a1"), looks := false }, kinds := [], alts := [], laidByText := true, laidKinds := [.data, .data, .data], laidTests := true, laidLooks := .later }
def BlockencTruncatesCardSaid : Prop := Claim7.holds Tryd.pinned (.plain (OpenSpec.ofChange blockencTruncatesSpec)) blockencTruncatesCard

/-- THE TIED CARD OF 'waveletlaw17.BlockencFits'. -/
def blockencFitsCard : Claim7 := { stood := { row := blockencFitsRow, standIns := [], harness := (true, "a38d0225384943072c19c7f715e82b59d70b0a1dee068f8c4b6f5cca6c85f3a1"), looks := false }, kinds := [], alts := [], laidByText := true, laidKinds := [.data, .data, .data], laidTests := true, laidLooks := .later }
def BlockencFitsCardSaid : Prop := Claim7.holds Tryd.pinned (.plain (OpenSpec.ofChange blockencFitsSpec)) blockencFitsCard

/-- THE TIED CARD OF 'waveletlaw17.BlockencCuts'. -/
def blockencCutsCard : Claim7 := { stood := { row := blockencCutsRow, standIns := [], harness := (true, "a38d0225384943072c19c7f715e82b59d70b0a1dee068f8c4b6f5cca6c85f3a1"), looks := false }, kinds := [], alts := [], laidByText := true, laidKinds := [.data, .data, .data], laidTests := true, laidLooks := .later }
def BlockencCutsCardSaid : Prop := Claim7.holds Tryd.pinned (.plain (OpenSpec.ofChange blockencCutsSpec)) blockencCutsCard

/-- THE TIED CARD OF 'waveletlaw18.BlockdecTruncates'. -/
def blockdecTruncatesCard : Claim7 := { stood := { row := blockdecTruncatesRow, standIns := [], harness := (true, "a38d0225384943072c19c7f715e82b59d70b0a1dee068f8c4b6f5cca6c85f3a1"), looks := false }, kinds := [], alts := [], laidByText := true, laidKinds := [.data, .data, .data], laidTests := true, laidLooks := .later }
def BlockdecTruncatesCardSaid : Prop := Claim7.holds Tryd.pinned (.plain (OpenSpec.ofChange blockdecTruncatesSpec)) blockdecTruncatesCard

/-- THE SECOND FORM's CARD OF 'waveletlaw17.BlockencValidates'. -/
def blockencValidatesUptoCard : Claim7 := { stood := { row := blockencValidatesUptoRow, standIns := [], harness := (true, "a38d0225384943072c19c7f715e82b59d70b0a1dee068f8c4b6f5cca6c85f3a1"), looks := false }, kinds := [], alts := [], laidByText := true, laidKinds := [.data, .data, .data], laidTests := true, laidLooks := .later }
def BlockencValidatesUptoCardSaid : Prop := Claim7.holds Tryd.pinned (.plain (OpenSpec.upto blockencValidatesSpec)) blockencValidatesUptoCard

/-- THE SECOND FORM's CARD OF 'waveletlaw17.BlockencTruncates'. -/
def blockencTruncatesUptoCard : Claim7 := { stood := { row := blockencTruncatesUptoRow, standIns := [], harness := (true, "a38d0225384943072c19c7f715e82b59d70b0a1dee068f8c4b6f5cca6c85f3a1"), looks := false }, kinds := [], alts := [], laidByText := true, laidKinds := [.data, .data, .data], laidTests := true, laidLooks := .later }
def BlockencTruncatesUptoCardSaid : Prop := Claim7.holds Tryd.pinned (.plain (OpenSpec.upto blockencTruncatesSpec)) blockencTruncatesUptoCard

/-- THE SECOND FORM's CARD OF 'waveletlaw17.BlockencFits'. -/
def blockencFitsUptoCard : Claim7 := { stood := { row := blockencFitsUptoRow, standIns := [], harness := (true, "a38d0225384943072c19c7f715e82b59d70b0a1dee068f8c4b6f5cca6c85f3a1"), looks := false }, kinds := [], alts := [], laidByText := true, laidKinds := [.data, .data, .data], laidTests := true, laidLooks := .later }
def BlockencFitsUptoCardSaid : Prop := Claim7.holds Tryd.pinned (.plain (OpenSpec.upto blockencFitsSpec)) blockencFitsUptoCard

/-- THE SECOND FORM's CARD OF 'waveletlaw17.BlockencCuts'. -/
def blockencCutsUptoCard : Claim7 := { stood := { row := blockencCutsUptoRow, standIns := [], harness := (true, "a38d0225384943072c19c7f715e82b59d70b0a1dee068f8c4b6f5cca6c85f3a1"), looks := false }, kinds := [], alts := [], laidByText := true, laidKinds := [.data, .data, .data], laidTests := true, laidLooks := .later }
def BlockencCutsUptoCardSaid : Prop := Claim7.holds Tryd.pinned (.plain (OpenSpec.upto blockencCutsSpec)) blockencCutsUptoCard

/-- THE SECOND FORM's CARD OF 'waveletlaw18.BlockdecTruncates'. -/
def blockdecTruncatesUptoCard : Claim7 := { stood := { row := blockdecTruncatesUptoRow, standIns := [], harness := (true, "a38d0225384943072c19c7f715e82b59d70b0a1dee068f8c4b6f5cca6c85f3a1"), looks := false }, kinds := [], alts := [], laidByText := true, laidKinds := [.data, .data, .data], laidTests := true, laidLooks := .later }
def BlockdecTruncatesUptoCardSaid : Prop := Claim7.holds Tryd.pinned (.plain (OpenSpec.upto blockdecTruncatesSpec)) blockdecTruncatesUptoCard
end Rows
end Go.Proofs.YtklchodbnjebnaaDoor
