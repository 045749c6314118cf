/-
  DERIVED. GIVEN WITH THE SEED: THE CARDS: each row of YthmhapkeadkhbaaDoorRows.lean that lists a variable, with what it lists TIED to the program's text (the seventh form; the later family's looks); each row that meets fmt, with fmt's text TOLD by the authors' own Lean function (tested against real Go, not proved from fmt's source: count such statements apart). THE CARD IS WHAT COUNTS. Prove the row's statement (the work); the ties are given (YthmhapkeadkhbaaDoorTie.lean); close each card by the builder's one call (the guide's Derived/Test/ToyasCard.lean, 'card_holds'). Laid BY PROGRAM, IN A SANDBOX (cutbox-door.mjs). By AI agents, Wed Nov 11 2026. No macro, syntax, notation, axiom, sorry.
-/
import Derived.Test.YthmhapkeadkhbaaDoorRows
import GoSem.ClaimSeven
namespace Go.Proofs.YthmhapkeadkhbaaDoor
namespace Rows

/-- THE TIED CARD OF 'waveletlaw13.ContextSignificance'. -/
def contextSignificanceCard : Claim7 := { stood := { row := contextSignificanceRow, standIns := [], harness := (true, "f2a4224bc17af1f79d85a7b7ff6c918897a26afe78f4402287fdef64821db9a1"), looks := false }, kinds := [], alts := [], laidByText := true, laidKinds := [.data, .data, .data], laidTests := true, laidLooks := .later }
def ContextSignificanceCardSaid : Prop := Claim7.holds Tryd.pinned (.plain (OpenSpec.ofChange contextSignificanceSpec)) contextSignificanceCard

/-- THE TIED CARD OF 'waveletlaw13.ContextSigns'. -/
def contextSignsCard : Claim7 := { stood := { row := contextSignsRow, standIns := [], harness := (true, "f2a4224bc17af1f79d85a7b7ff6c918897a26afe78f4402287fdef64821db9a1"), looks := false }, kinds := [], alts := [], laidByText := true, laidKinds := [.data, .data, .data], laidTests := true, laidLooks := .later }
def ContextSignsCardSaid : Prop := Claim7.holds Tryd.pinned (.plain (OpenSpec.ofChange contextSignsSpec)) contextSignsCard

/-- THE TIED CARD OF 'waveletlaw13.ContextRefines'. -/
def contextRefinesCard : Claim7 := { stood := { row := contextRefinesRow, standIns := [], harness := (true, "f2a4224bc17af1f79d85a7b7ff6c918897a26afe78f4402287fdef64821db9a1"), looks := false }, kinds := [], alts := [], laidByText := true, laidKinds := [.data, .data, .data], laidTests := true, laidLooks := .later }
def ContextRefinesCardSaid : Prop := Claim7.holds Tryd.pinned (.plain (OpenSpec.ofChange contextRefinesSpec)) contextRefinesCard

/-- THE TIED CARD OF 'waveletlaw13.ContextSymmetry'. -/
def contextSymmetryCard : Claim7 := { stood := { row := contextSymmetryRow, standIns := [], harness := (true, "f2a4224bc17af1f79d85a7b7ff6c918897a26afe78f4402287fdef64821db9a1"), looks := false }, kinds := [], alts := [], laidByText := true, laidKinds := [.data, .data, .data], laidTests := true, laidLooks := .later }
def ContextSymmetryCardSaid : Prop := Claim7.holds Tryd.pinned (.plain (OpenSpec.ofChange contextSymmetrySpec)) contextSymmetryCard

/-- THE TIED CARD OF 'waveletlaw13.ContextOrder'. -/
def contextOrderCard : Claim7 := { stood := { row := contextOrderRow, standIns := [], harness := (true, "f2a4224bc17af1f79d85a7b7ff6c918897a26afe78f4402287fdef64821db9a1"), looks := false }, kinds := [], alts := [], laidByText := true, laidKinds := [.data, .data, .data], laidTests := true, laidLooks := .later }
def ContextOrderCardSaid : Prop := Claim7.holds Tryd.pinned (.plain (OpenSpec.ofChange contextOrderSpec)) contextOrderCard

/-- THE SECOND FORM's CARD OF 'waveletlaw13.ContextSignificance'. -/
def contextSignificanceUptoCard : Claim7 := { stood := { row := contextSignificanceUptoRow, standIns := [], harness := (true, "f2a4224bc17af1f79d85a7b7ff6c918897a26afe78f4402287fdef64821db9a1"), looks := false }, kinds := [], alts := [], laidByText := true, laidKinds := [.data, .data, .data], laidTests := true, laidLooks := .later }
def ContextSignificanceUptoCardSaid : Prop := Claim7.holds Tryd.pinned (.plain (OpenSpec.upto contextSignificanceSpec)) contextSignificanceUptoCard

/-- THE SECOND FORM's CARD OF 'waveletlaw13.ContextSigns'. -/
def contextSignsUptoCard : Claim7 := { stood := { row := contextSignsUptoRow, standIns := [], harness := (true, "f2a4224bc17af1f79d85a7b7ff6c918897a26afe78f4402287fdef64821db9a1"), looks := false }, kinds := [], alts := [], laidByText := true, laidKinds := [.data, .data, .data], laidTests := true, laidLooks := .later }
def ContextSignsUptoCardSaid : Prop := Claim7.holds Tryd.pinned (.plain (OpenSpec.upto contextSignsSpec)) contextSignsUptoCard

/-- THE SECOND FORM's CARD OF 'waveletlaw13.ContextRefines'. -/
def contextRefinesUptoCard : Claim7 := { stood := { row := contextRefinesUptoRow, standIns := [], harness := (true, "f2a4224bc17af1f79d85a7b7ff6c918897a26afe78f4402287fdef64821db9a1"), looks := false }, kinds := [], alts := [], laidByText := true, laidKinds := [.data, .data, .data], laidTests := true, laidLooks := .later }
def ContextRefinesUptoCardSaid : Prop := Claim7.holds Tryd.pinned (.plain (OpenSpec.upto contextRefinesSpec)) contextRefinesUptoCard

/-- THE SECOND FORM's CARD OF 'waveletlaw13.ContextSymmetry'. -/
def contextSymmetryUptoCard : Claim7 := { stood := { row := contextSymmetryUptoRow, standIns := [], harness := (true, "f2a4224bc17af1f79d85a7b7ff6c918897a26afe78f4402287fdef64821db9a1"), looks := false }, kinds := [], alts := [], laidByText := true, laidKinds := [.data, .data, .data], laidTests := true, laidLooks := .later }
def ContextSymmetryUptoCardSaid : Prop := Claim7.holds Tryd.pinned (.plain (OpenSpec.upto contextSymmetrySpec)) contextSymmetryUptoCard

/-- THE SECOND FORM's CARD OF 'waveletlaw13.ContextOrder'. -/
def contextOrderUptoCard : Claim7 := { stood := { row := contextOrderUptoRow, standIns := [], harness := (true, "f2a4224bc17af1f79d85a7b7ff6c918897a26afe78f4402287fdef64821db9a1"), looks := false }, kinds := [], alts := [], laidByText := true, laidKinds := [.data, .data, .data], laidTests := true, laidLooks := .later }
def ContextOrderUptoCardSaid : Prop := Claim7.holds Tryd.pinned (.plain (OpenSpec.upto contextOrderSpec)) contextOrderUptoCard
end Rows
end Go.Proofs.YthmhapkeadkhbaaDoor
