/-
  DERIVED. GIVEN WITH THE SEED: THE CARDS: each row of YtnmmgjbjnhiaoaaDoorRows.lean that lists a variable, with what it lists TIED to the program's text (the seventh form; the later family's looks); each row that meets fmt, with fmt's text TOLD by the authors' own Lean function (tested against real Go, not proved from fmt's source: count such statements apart). THE CARD IS WHAT COUNTS. Prove the row's statement (the work); the ties are given (YtnmmgjbjnhiaoaaDoorTie.lean); close each card by the builder's one call (the guide's Derived/Test/ToyasCard.lean, 'card_holds'). Laid BY PROGRAM, IN A SANDBOX (cutbox-door.mjs). By AI agents, Wed Nov 11 2026. No macro, syntax, notation, axiom, sorry.
-/
import Derived.Test.YtnmmgjbjnhiaoaaDoorRows
import GoSem.ClaimSeven
namespace Go.Proofs.YtnmmgjbjnhiaoaaDoor
namespace Rows

/-- THE TIED CARD OF 'waveletlaw19.DistortWeights'. -/
def distortWeightsCard : Claim7 := { stood := { row := distortWeightsRow, standIns := [], harness := (true, "3e5ee7090e1a8c698a61c40236b883ff0bf46cca6e1416340b29ec874eb8c76b"), looks := false }, kinds := [], alts := [], laidByText := true, laidKinds := [.data, .data, .data], laidTests := true, laidLooks := .later }
def DistortWeightsCardSaid : Prop := Claim7.holds Tryd.pinned (.plain (OpenSpec.ofChange distortWeightsSpec)) distortWeightsCard

/-- THE TIED CARD OF 'waveletlaw19.DistortErrors'. -/
def distortErrorsCard : Claim7 := { stood := { row := distortErrorsRow, standIns := [], harness := (true, "3e5ee7090e1a8c698a61c40236b883ff0bf46cca6e1416340b29ec874eb8c76b"), looks := false }, kinds := [], alts := [], laidByText := true, laidKinds := [.data, .data, .data], laidTests := true, laidLooks := .later }
def DistortErrorsCardSaid : Prop := Claim7.holds Tryd.pinned (.plain (OpenSpec.ofChange distortErrorsSpec)) distortErrorsCard

/-- THE TIED CARD OF 'waveletlaw19.DistortTotals'. -/
def distortTotalsCard : Claim7 := { stood := { row := distortTotalsRow, standIns := [], harness := (true, "3e5ee7090e1a8c698a61c40236b883ff0bf46cca6e1416340b29ec874eb8c76b"), looks := false }, kinds := [], alts := [], laidByText := true, laidKinds := [.data, .data, .data], laidTests := true, laidLooks := .later }
def DistortTotalsCardSaid : Prop := Claim7.holds Tryd.pinned (.plain (OpenSpec.ofChange distortTotalsSpec)) distortTotalsCard

/-- THE TIED CARD OF 'waveletlaw19.DistortAdds'. -/
def distortAddsCard : Claim7 := { stood := { row := distortAddsRow, standIns := [], harness := (true, "3e5ee7090e1a8c698a61c40236b883ff0bf46cca6e1416340b29ec874eb8c76b"), looks := false }, kinds := [], alts := [], laidByText := true, laidKinds := [.data, .data, .data], laidTests := true, laidLooks := .later }
def DistortAddsCardSaid : Prop := Claim7.holds Tryd.pinned (.plain (OpenSpec.ofChange distortAddsSpec)) distortAddsCard

/-- THE TIED CARD OF 'waveletlaw19.DistortHalf'. -/
def distortHalfCard : Claim7 := { stood := { row := distortHalfRow, standIns := [], harness := (true, "3e5ee7090e1a8c698a61c40236b883ff0bf46cca6e1416340b29ec874eb8c76b"), looks := false }, kinds := [], alts := [], laidByText := true, laidKinds := [.data, .data, .data], laidTests := true, laidLooks := .later }
def DistortHalfCardSaid : Prop := Claim7.holds Tryd.pinned (.plain (OpenSpec.ofChange distortHalfSpec)) distortHalfCard

/-- THE TIED CARD OF 'waveletlaw18.BlockdecTruncates'. -/
def blockdecTruncatesCard : Claim7 := { stood := { row := blockdecTruncatesRow, standIns := [], harness := (true, "3e5ee7090e1a8c698a61c40236b883ff0bf46cca6e1416340b29ec874eb8c76b"), looks := false }, kinds := [], alts := [], laidByText := true, laidKinds := [.data, .data, .data], laidTests := true, laidLooks := .later }
def BlockdecTruncatesCardSaid : Prop := Claim7.holds Tryd.pinned (.plain (OpenSpec.ofChange blockdecTruncatesSpec)) blockdecTruncatesCard

/-- THE SECOND FORM's CARD OF 'waveletlaw19.DistortWeights'. -/
def distortWeightsUptoCard : Claim7 := { stood := { row := distortWeightsUptoRow, standIns := [], harness := (true, "3e5ee7090e1a8c698a61c40236b883ff0bf46cca6e1416340b29ec874eb8c76b"), looks := false }, kinds := [], alts := [], laidByText := true, laidKinds := [.data, .data, .data], laidTests := true, laidLooks := .later }
def DistortWeightsUptoCardSaid : Prop := Claim7.holds Tryd.pinned (.plain (OpenSpec.upto distortWeightsSpec)) distortWeightsUptoCard

/-- THE SECOND FORM's CARD OF 'waveletlaw19.DistortErrors'. -/
def distortErrorsUptoCard : Claim7 := { stood := { row := distortErrorsUptoRow, standIns := [], harness := (true, "3e5ee7090e1a8c698a61c40236b883ff0bf46cca6e1416340b29ec874eb8c76b"), looks := false }, kinds := [], alts := [], laidByText := true, laidKinds := [.data, .data, .data], laidTests := true, laidLooks := .later }
def DistortErrorsUptoCardSaid : Prop := Claim7.holds Tryd.pinned (.plain (OpenSpec.upto distortErrorsSpec)) distortErrorsUptoCard

/-- THE SECOND FORM's CARD OF 'waveletlaw19.DistortTotals'. -/
def distortTotalsUptoCard : Claim7 := { stood := { row := distortTotalsUptoRow, standIns := [], harness := (true, "3e5ee7090e1a8c698a61c40236b883ff0bf46cca6e1416340b29ec874eb8c76b"), looks := false }, kinds := [], alts := [], laidByText := true, laidKinds := [.data, .data, .data], laidTests := true, laidLooks := .later }
def DistortTotalsUptoCardSaid : Prop := Claim7.holds Tryd.pinned (.plain (OpenSpec.upto distortTotalsSpec)) distortTotalsUptoCard

/-- THE SECOND FORM's CARD OF 'waveletlaw19.DistortAdds'. -/
def distortAddsUptoCard : Claim7 := { stood := { row := distortAddsUptoRow, standIns := [], harness := (true, "3e5ee7090e1a8c698a61c40236b883ff0bf46cca6e1416340b29ec874eb8c76b"), looks := false }, kinds := [], alts := [], laidByText := true, laidKinds := [.data, .data, .data], laidTests := true, laidLooks := .later }
def DistortAddsUptoCardSaid : Prop := Claim7.holds Tryd.pinned (.plain (OpenSpec.upto distortAddsSpec)) distortAddsUptoCard

/-- THE SECOND FORM's CARD OF 'waveletlaw19.DistortHalf'. -/
def distortHalfUptoCard : Claim7 := { stood := { row := distortHalfUptoRow, standIns := [], harness := (true, "3e5ee7090e1a8c698a61c40236b883ff0bf46cca6e1416340b29ec874eb8c76b"), looks := false }, kinds := [], alts := [], laidByText := true, laidKinds := [.data, .data, .data], laidTests := true, laidLooks := .later }
def DistortHalfUptoCardSaid : Prop := Claim7.holds Tryd.pinned (.plain (OpenSpec.upto distortHalfSpec)) distortHalfUptoCard

/-- THE SECOND FORM's CARD OF 'waveletlaw18.BlockdecTruncates'. -/
def blockdecTruncatesUptoCard : Claim7 := { stood := { row := blockdecTruncatesUptoRow, standIns := [], harness := (true, "3e5ee7090e1a8c698a61c40236b883ff0bf46cca6e1416340b29ec874eb8c76b"), looks := false }, kinds := [], alts := [], laidByText := true, laidKinds := [.data, .data, .data], laidTests := true, laidLooks := .later }
def BlockdecTruncatesUptoCardSaid : Prop := Claim7.holds Tryd.pinned (.plain (OpenSpec.upto blockdecTruncatesSpec)) blockdecTruncatesUptoCard
end Rows
end Go.Proofs.YtnmmgjbjnhiaoaaDoor
