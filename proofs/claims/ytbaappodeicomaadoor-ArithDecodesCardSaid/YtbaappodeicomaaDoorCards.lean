/-
  DERIVED. GIVEN WITH THE SEED: THE CARDS: each row of YtbaappodeicomaaDoorRows.lean that lists a variable, with what it lists TIED to the program's text (the seventh form; the later family's looks); each row that meets fmt, with fmt's text TOLD by the authors' own Lean function (tested against real Go, not proved from fmt's source: count such statements apart). THE CARD IS WHAT COUNTS. Prove the row's statement (the work); the ties are given (YtbaappodeicomaaDoorTie.lean); close each card by the builder's one call (the guide's Derived/Test/ToyasCard.lean, 'card_holds'). Laid BY PROGRAM, IN A SANDBOX (cutbox-door.mjs). By AI agents, Wed Nov 11 2026. No macro, syntax, notation, axiom, sorry.
-/
import Derived.Test.YtbaappodeicomaaDoorRows
import GoSem.ClaimSeven
namespace Go.Proofs.YtbaappodeicomaaDoor
namespace Rows

/-- THE TIED CARD OF 'waveletlaw11.ArithAdapts'. -/
def arithAdaptsCard : Claim7 := { stood := { row := arithAdaptsRow, standIns := [], harness := (true, "c8322bf3e08a4311f9c958fb5ebfbd7665216547ad222135c3f6ac930aca44a0"), looks := false }, kinds := [], alts := [], laidByText := true, laidKinds := [.data, .pinned], laidTests := true, laidLooks := .later }
def ArithAdaptsCardSaid : Prop := Claim7.holds Tryd.pinned (.plain (OpenSpec.ofChange arithAdaptsSpec)) arithAdaptsCard

/-- THE TIED CARD OF 'waveletlaw11.ArithEncodes'. -/
def arithEncodesCard : Claim7 := { stood := { row := arithEncodesRow, standIns := [], harness := (true, "c8322bf3e08a4311f9c958fb5ebfbd7665216547ad222135c3f6ac930aca44a0"), looks := false }, kinds := [], alts := [], laidByText := true, laidKinds := [.data, .pinned], laidTests := true, laidLooks := .later }
def ArithEncodesCardSaid : Prop := Claim7.holds Tryd.pinned (.plain (OpenSpec.ofChange arithEncodesSpec)) arithEncodesCard

/-- THE TIED CARD OF 'waveletlaw11.ArithDecodes'. -/
def arithDecodesCard : Claim7 := { stood := { row := arithDecodesRow, standIns := [], harness := (true, "c8322bf3e08a4311f9c958fb5ebfbd7665216547ad222135c3f6ac930aca44a0"), looks := false }, kinds := [], alts := [], laidByText := true, laidKinds := [.data, .pinned], laidTests := true, laidLooks := .later }
def ArithDecodesCardSaid : Prop := Claim7.holds Tryd.pinned (.plain (OpenSpec.ofChange arithDecodesSpec)) arithDecodesCard

/-- THE TIED CARD OF 'waveletlaw11.ArithRestores'. -/
def arithRestoresCard : Claim7 := { stood := { row := arithRestoresRow, standIns := [], harness := (true, "c8322bf3e08a4311f9c958fb5ebfbd7665216547ad222135c3f6ac930aca44a0"), looks := false }, kinds := [], alts := [], laidByText := true, laidKinds := [.data, .pinned], laidTests := true, laidLooks := .later }
def ArithRestoresCardSaid : Prop := Claim7.holds Tryd.pinned (.plain (OpenSpec.ofChange arithRestoresSpec)) arithRestoresCard

/-- THE TIED CARD OF 'waveletlaw11.ArithPrefixes'. -/
def arithPrefixesCard : Claim7 := { stood := { row := arithPrefixesRow, standIns := [], harness := (true, "c8322bf3e08a4311f9c958fb5ebfbd7665216547ad222135c3f6ac930aca44a0"), looks := false }, kinds := [], alts := [], laidByText := true, laidKinds := [.data, .pinned], laidTests := true, laidLooks := .later }
def ArithPrefixesCardSaid : Prop := Claim7.holds Tryd.pinned (.plain (OpenSpec.ofChange arithPrefixesSpec)) arithPrefixesCard

/-- THE TIED CARD OF 'waveletlaw11.ArithShortest'. -/
def arithShortestCard : Claim7 := { stood := { row := arithShortestRow, standIns := [], harness := (true, "c8322bf3e08a4311f9c958fb5ebfbd7665216547ad222135c3f6ac930aca44a0"), looks := false }, kinds := [], alts := [], laidByText := true, laidKinds := [.data, .pinned], laidTests := true, laidLooks := .later }
def ArithShortestCardSaid : Prop := Claim7.holds Tryd.pinned (.plain (OpenSpec.ofChange arithShortestSpec)) arithShortestCard

/-- THE TIED CARD OF 'waveletlaw11.ArithResets'. -/
def arithResetsCard : Claim7 := { stood := { row := arithResetsRow, standIns := [], harness := (true, "c8322bf3e08a4311f9c958fb5ebfbd7665216547ad222135c3f6ac930aca44a0"), looks := false }, kinds := [], alts := [], laidByText := true, laidKinds := [.data, .pinned], laidTests := true, laidLooks := .later }
def ArithResetsCardSaid : Prop := Claim7.holds Tryd.pinned (.plain (OpenSpec.ofChange arithResetsSpec)) arithResetsCard

/-- THE TIED CARD OF 'waveletlaw11.ArithNone'. -/
def arithNoneCard : Claim7 := { stood := { row := arithNoneRow, standIns := [], harness := (true, "c8322bf3e08a4311f9c958fb5ebfbd7665216547ad222135c3f6ac930aca44a0"), looks := false }, kinds := [], alts := [], laidByText := true, laidKinds := [.data, .pinned], laidTests := true, laidLooks := .later }
def ArithNoneCardSaid : Prop := Claim7.holds Tryd.pinned (.plain (OpenSpec.ofChange arithNoneSpec)) arithNoneCard

/-- THE TIED CARD OF 'waveletlaw12.RawbitsWrites'. -/
def rawbitsWritesCard : Claim7 := { stood := { row := rawbitsWritesRow, standIns := [], harness := (true, "c8322bf3e08a4311f9c958fb5ebfbd7665216547ad222135c3f6ac930aca44a0"), looks := false }, kinds := [], alts := [], laidByText := true, laidKinds := [.data, .pinned], laidTests := true, laidLooks := .later }
def RawbitsWritesCardSaid : Prop := Claim7.holds Tryd.pinned (.plain (OpenSpec.ofChange rawbitsWritesSpec)) rawbitsWritesCard

/-- THE TIED CARD OF 'waveletlaw12.RawbitsReads'. -/
def rawbitsReadsCard : Claim7 := { stood := { row := rawbitsReadsRow, standIns := [], harness := (true, "c8322bf3e08a4311f9c958fb5ebfbd7665216547ad222135c3f6ac930aca44a0"), looks := false }, kinds := [], alts := [], laidByText := true, laidKinds := [.data, .pinned], laidTests := true, laidLooks := .later }
def RawbitsReadsCardSaid : Prop := Claim7.holds Tryd.pinned (.plain (OpenSpec.ofChange rawbitsReadsSpec)) rawbitsReadsCard

/-- THE TIED CARD OF 'waveletlaw12.RawbitsRestores'. -/
def rawbitsRestoresCard : Claim7 := { stood := { row := rawbitsRestoresRow, standIns := [], harness := (true, "c8322bf3e08a4311f9c958fb5ebfbd7665216547ad222135c3f6ac930aca44a0"), looks := false }, kinds := [], alts := [], laidByText := true, laidKinds := [.data, .pinned], laidTests := true, laidLooks := .later }
def RawbitsRestoresCardSaid : Prop := Claim7.holds Tryd.pinned (.plain (OpenSpec.ofChange rawbitsRestoresSpec)) rawbitsRestoresCard

/-- THE TIED CARD OF 'waveletlaw12.RawbitsNone'. -/
def rawbitsNoneCard : Claim7 := { stood := { row := rawbitsNoneRow, standIns := [], harness := (true, "c8322bf3e08a4311f9c958fb5ebfbd7665216547ad222135c3f6ac930aca44a0"), looks := false }, kinds := [], alts := [], laidByText := true, laidKinds := [.data, .pinned], laidTests := true, laidLooks := .later }
def RawbitsNoneCardSaid : Prop := Claim7.holds Tryd.pinned (.plain (OpenSpec.ofChange rawbitsNoneSpec)) rawbitsNoneCard

/-- THE SECOND FORM's CARD OF 'waveletlaw11.ArithAdapts'. -/
def arithAdaptsUptoCard : Claim7 := { stood := { row := arithAdaptsUptoRow, standIns := [], harness := (true, "c8322bf3e08a4311f9c958fb5ebfbd7665216547ad222135c3f6ac930aca44a0"), looks := false }, kinds := [], alts := [], laidByText := true, laidKinds := [.data, .pinned], laidTests := true, laidLooks := .later }
def ArithAdaptsUptoCardSaid : Prop := Claim7.holds Tryd.pinned (.plain (OpenSpec.upto arithAdaptsSpec)) arithAdaptsUptoCard

/-- THE SECOND FORM's CARD OF 'waveletlaw11.ArithEncodes'. -/
def arithEncodesUptoCard : Claim7 := { stood := { row := arithEncodesUptoRow, standIns := [], harness := (true, "c8322bf3e08a4311f9c958fb5ebfbd7665216547ad222135c3f6ac930aca44a0"), looks := false }, kinds := [], alts := [], laidByText := true, laidKinds := [.data, .pinned], laidTests := true, laidLooks := .later }
def ArithEncodesUptoCardSaid : Prop := Claim7.holds Tryd.pinned (.plain (OpenSpec.upto arithEncodesSpec)) arithEncodesUptoCard

/-- THE SECOND FORM's CARD OF 'waveletlaw11.ArithDecodes'. -/
def arithDecodesUptoCard : Claim7 := { stood := { row := arithDecodesUptoRow, standIns := [], harness := (true, "c8322bf3e08a4311f9c958fb5ebfbd7665216547ad222135c3f6ac930aca44a0"), looks := false }, kinds := [], alts := [], laidByText := true, laidKinds := [.data, .pinned], laidTests := true, laidLooks := .later }
def ArithDecodesUptoCardSaid : Prop := Claim7.holds Tryd.pinned (.plain (OpenSpec.upto arithDecodesSpec)) arithDecodesUptoCard

/-- THE SECOND FORM's CARD OF 'waveletlaw11.ArithRestores'. -/
def arithRestoresUptoCard : Claim7 := { stood := { row := arithRestoresUptoRow, standIns := [], harness := (true, "c8322bf3e08a4311f9c958fb5ebfbd7665216547ad222135c3f6ac930aca44a0"), looks := false }, kinds := [], alts := [], laidByText := true, laidKinds := [.data, .pinned], laidTests := true, laidLooks := .later }
def ArithRestoresUptoCardSaid : Prop := Claim7.holds Tryd.pinned (.plain (OpenSpec.upto arithRestoresSpec)) arithRestoresUptoCard

/-- THE SECOND FORM's CARD OF 'waveletlaw11.ArithPrefixes'. -/
def arithPrefixesUptoCard : Claim7 := { stood := { row := arithPrefixesUptoRow, standIns := [], harness := (true, "c8322bf3e08a4311f9c958fb5ebfbd7665216547ad222135c3f6ac930aca44a0"), looks := false }, kinds := [], alts := [], laidByText := true, laidKinds := [.data, .pinned], laidTests := true, laidLooks := .later }
def ArithPrefixesUptoCardSaid : Prop := Claim7.holds Tryd.pinned (.plain (OpenSpec.upto arithPrefixesSpec)) arithPrefixesUptoCard

/-- THE SECOND FORM's CARD OF 'waveletlaw11.ArithShortest'. -/
def arithShortestUptoCard : Claim7 := { stood := { row := arithShortestUptoRow, standIns := [], harness := (true, "c8322bf3e08a4311f9c958fb5ebfbd7665216547ad222135c3f6ac930aca44a0"), looks := false }, kinds := [], alts := [], laidByText := true, laidKinds := [.data, .pinned], laidTests := true, laidLooks := .later }
def ArithShortestUptoCardSaid : Prop := Claim7.holds Tryd.pinned (.plain (OpenSpec.upto arithShortestSpec)) arithShortestUptoCard

/-- THE SECOND FORM's CARD OF 'waveletlaw11.ArithResets'. -/
def arithResetsUptoCard : Claim7 := { stood := { row := arithResetsUptoRow, standIns := [], harness := (true, "c8322bf3e08a4311f9c958fb5ebfbd7665216547ad222135c3f6ac930aca44a0"), looks := false }, kinds := [], alts := [], laidByText := true, laidKinds := [.data, .pinned], laidTests := true, laidLooks := .later }
def ArithResetsUptoCardSaid : Prop := Claim7.holds Tryd.pinned (.plain (OpenSpec.upto arithResetsSpec)) arithResetsUptoCard

/-- THE SECOND FORM's CARD OF 'waveletlaw11.ArithNone'. -/
def arithNoneUptoCard : Claim7 := { stood := { row := arithNoneUptoRow, standIns := [], harness := (true, "c8322bf3e08a4311f9c958fb5ebfbd7665216547ad222135c3f6ac930aca44a0"), looks := false }, kinds := [], alts := [], laidByText := true, laidKinds := [.data, .pinned], laidTests := true, laidLooks := .later }
def ArithNoneUptoCardSaid : Prop := Claim7.holds Tryd.pinned (.plain (OpenSpec.upto arithNoneSpec)) arithNoneUptoCard

/-- THE SECOND FORM's CARD OF 'waveletlaw12.RawbitsWrites'. -/
def rawbitsWritesUptoCard : Claim7 := { stood := { row := rawbitsWritesUptoRow, standIns := [], harness := (true, "c8322bf3e08a4311f9c958fb5ebfbd7665216547ad222135c3f6ac930aca44a0"), looks := false }, kinds := [], alts := [], laidByText := true, laidKinds := [.data, .pinned], laidTests := true, laidLooks := .later }
def RawbitsWritesUptoCardSaid : Prop := Claim7.holds Tryd.pinned (.plain (OpenSpec.upto rawbitsWritesSpec)) rawbitsWritesUptoCard

/-- THE SECOND FORM's CARD OF 'waveletlaw12.RawbitsReads'. -/
def rawbitsReadsUptoCard : Claim7 := { stood := { row := rawbitsReadsUptoRow, standIns := [], harness := (true, "c8322bf3e08a4311f9c958fb5ebfbd7665216547ad222135c3f6ac930aca44a0"), looks := false }, kinds := [], alts := [], laidByText := true, laidKinds := [.data, .pinned], laidTests := true, laidLooks := .later }
def RawbitsReadsUptoCardSaid : Prop := Claim7.holds Tryd.pinned (.plain (OpenSpec.upto rawbitsReadsSpec)) rawbitsReadsUptoCard

/-- THE SECOND FORM's CARD OF 'waveletlaw12.RawbitsRestores'. -/
def rawbitsRestoresUptoCard : Claim7 := { stood := { row := rawbitsRestoresUptoRow, standIns := [], harness := (true, "c8322bf3e08a4311f9c958fb5ebfbd7665216547ad222135c3f6ac930aca44a0"), looks := false }, kinds := [], alts := [], laidByText := true, laidKinds := [.data, .pinned], laidTests := true, laidLooks := .later }
def RawbitsRestoresUptoCardSaid : Prop := Claim7.holds Tryd.pinned (.plain (OpenSpec.upto rawbitsRestoresSpec)) rawbitsRestoresUptoCard

/-- THE SECOND FORM's CARD OF 'waveletlaw12.RawbitsNone'. -/
def rawbitsNoneUptoCard : Claim7 := { stood := { row := rawbitsNoneUptoRow, standIns := [], harness := (true, "c8322bf3e08a4311f9c958fb5ebfbd7665216547ad222135c3f6ac930aca44a0"), looks := false }, kinds := [], alts := [], laidByText := true, laidKinds := [.data, .pinned], laidTests := true, laidLooks := .later }
def RawbitsNoneUptoCardSaid : Prop := Claim7.holds Tryd.pinned (.plain (OpenSpec.upto rawbitsNoneSpec)) rawbitsNoneUptoCard
end Rows
end Go.Proofs.YtbaappodeicomaaDoor
