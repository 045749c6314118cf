/-
  NARROWER THAN 'FOR EVERY INPUT', by the rows' own cells (each row's printed sentence says how): ContextSignificance: laid · ContextSigns: laid · ContextRefines: laid · ContextSymmetry: laid · ContextOrder: laid.
  DERIVED. THE GIVEN ROWS OF THIS SEAT. 5 by the template 'for every input the law returns true; each argument reads behind the call as it read before'; 0 by the template 'total and deterministic' (their statements: YthmhapkeadkhbaaDoorTotals.lean).
  GIVEN WITH THE SEED: the statements are not yours to turn. If you find one false, say at which input.
  Laid BY PROGRAM, IN A SANDBOX (cutbox-rows.mjs): the forced cells as the released guide's own fill.sh prints them over the translation e8144e0725386ed0… (all of the seat's roots in one cut). By AI agents, Wed Nov 11 2026. No macro, syntax, notation, axiom, sorry.
-/
import Derived.Test.YthmhapkeadkhbaaDoorChecked
import GoSem.Claim
import GoSem.ClaimJoined
import GoSem.ClaimMapViews
import Derived.JoinedTies
import Derived.KernelRfl
namespace Go.Proofs.YthmhapkeadkhbaaDoor
/- THE CELL 'sum', in the pinned program and in every row, IS THE sha256 OF THE DUMP (.gsa) THAT YthmhapkeadkhbaaDoorProg.lean LOADS. Nothing in Lean hashes anything: it is a label: what it is worth is what the hold of that sum in a sandbox is worth. -/
noncomputable def Tryd.pinned : Pinned := { name := "ythmhapkeadkhbaadoor", sum := "e8144e0725386ed07c01372d578d436532cd5c4ae982b19e926029017493c649", checked := Tryd.checked }
namespace Rows
def none {H : Type} : Left H := { results := [], args := [] }

/- WHAT THE LISTED PACKAGE-LEVEL VARIABLES READ AS WHEN THE CALL BEGINS. Each datum BY PROGRAM (the guide's laid-datum.mjs) off the statement by which the dump's own 'gosem.cut.vars' lays the variable. In a bare row this is a premise. The card (YthmhapkeadkhbaaDoorCards.lean) ties it to the program's text. -/
def laid_wavelet_context_straight {H : Type} : DataW H := .agg [.agg [.agg [.lit (.int .i64 0), .lit (.int .i64 1), .lit (.int .i64 2), .lit (.int .i64 2), .lit (.int .i64 2)], .agg [.lit (.int .i64 3), .lit (.int .i64 3), .lit (.int .i64 3), .lit (.int .i64 3), .lit (.int .i64 3)], .agg [.lit (.int .i64 4), .lit (.int .i64 4), .lit (.int .i64 4), .lit (.int .i64 4), .lit (.int .i64 4)]], .agg [.agg [.lit (.int .i64 5), .lit (.int .i64 6), .lit (.int .i64 6), .lit (.int .i64 6), .lit (.int .i64 6)], .agg [.lit (.int .i64 7), .lit (.int .i64 7), .lit (.int .i64 7), .lit (.int .i64 7), .lit (.int .i64 7)], .agg [.lit (.int .i64 7), .lit (.int .i64 7), .lit (.int .i64 7), .lit (.int .i64 7), .lit (.int .i64 7)]], .agg [.agg [.lit (.int .i64 8), .lit (.int .i64 8), .lit (.int .i64 8), .lit (.int .i64 8), .lit (.int .i64 8)], .agg [.lit (.int .i64 8), .lit (.int .i64 8), .lit (.int .i64 8), .lit (.int .i64 8), .lit (.int .i64 8)], .agg [.lit (.int .i64 8), .lit (.int .i64 8), .lit (.int .i64 8), .lit (.int .i64 8), .lit (.int .i64 8)]]]
def laid_wavelet_context_diagonal {H : Type} : DataW H := .agg [.agg [.lit (.int .i64 0), .lit (.int .i64 1), .lit (.int .i64 2), .lit (.int .i64 2), .lit (.int .i64 2)], .agg [.lit (.int .i64 3), .lit (.int .i64 4), .lit (.int .i64 5), .lit (.int .i64 5), .lit (.int .i64 5)], .agg [.lit (.int .i64 6), .lit (.int .i64 7), .lit (.int .i64 7), .lit (.int .i64 7), .lit (.int .i64 7)], .agg [.lit (.int .i64 8), .lit (.int .i64 8), .lit (.int .i64 8), .lit (.int .i64 8), .lit (.int .i64 8)], .agg [.lit (.int .i64 8), .lit (.int .i64 8), .lit (.int .i64 8), .lit (.int .i64 8), .lit (.int .i64 8)]]
def laid_wavelet_context_signs {H : Type} : DataW H := .agg [.agg [.agg [.lit (.int .i64 13), .lit (.int .i64 1)], .agg [.lit (.int .i64 12), .lit (.int .i64 1)], .agg [.lit (.int .i64 11), .lit (.int .i64 1)]], .agg [.agg [.lit (.int .i64 10), .lit (.int .i64 1)], .agg [.lit (.int .i64 9), .lit (.int .i64 0)], .agg [.lit (.int .i64 10), .lit (.int .i64 0)]], .agg [.agg [.lit (.int .i64 11), .lit (.int .i64 0)], .agg [.lit (.int .i64 12), .lit (.int .i64 0)], .agg [.lit (.int .i64 13), .lit (.int .i64 0)]]]

/-- 'waveletlaw13.ContextSignificance': WHATEVER THE INPUT: true; the input reads as it did. -/
def contextSignificanceSpec : ChangeSpec := { name := "contextSignificance", fn := fun _ => fun
  | [d1, d2] => { results := [.lit (.bool true)], args := [d1, d2] }
  | _ => none }
def contextSignificanceRow : OpenClaim := { program := "ythmhapkeadkhbaadoor", sum := "e8144e0725386ed07c01372d578d436532cd5c4ae982b19e926029017493c649", func := "wavelet/waveletlaw13.ContextSignificance", spec := "contextSignificance", named := ["wavelet/context.diagonal", "wavelet/context.straight", "wavelet/context.signs"], apart := false, laid := [("wavelet/context.straight", laid_wavelet_context_straight), ("wavelet/context.diagonal", laid_wavelet_context_diagonal), ("wavelet/context.signs", laid_wavelet_context_signs)] }
def ContextSignificanceSaid : Prop := contextSignificanceRow.holds Tryd.pinned (OpenSpec.ofChange contextSignificanceSpec)

/-- ITS FALSE NEIGHBOUR: 'it returns false'. Refute it at one input. -/
def contextSignificanceWrong : ChangeSpec := { name := "contextSignificance", fn := fun _ => fun
  | [d1, d2] => { results := [.lit (.bool false)], args := [d1, d2] }
  | _ => none }
def ContextSignificanceWrongFalsely : Prop := contextSignificanceRow.holds Tryd.pinned (OpenSpec.ofChange contextSignificanceWrong)

/-- 'waveletlaw13.ContextSigns': WHATEVER THE INPUT: true; the input reads as it did. -/
def contextSignsSpec : ChangeSpec := { name := "contextSigns", fn := fun _ => fun
  | [d1, d2] => { results := [.lit (.bool true)], args := [d1, d2] }
  | _ => none }
def contextSignsRow : OpenClaim := { program := "ythmhapkeadkhbaadoor", sum := "e8144e0725386ed07c01372d578d436532cd5c4ae982b19e926029017493c649", func := "wavelet/waveletlaw13.ContextSigns", spec := "contextSigns", recurses := true, named := ["wavelet/context.signs", "wavelet/context.diagonal", "wavelet/context.straight"], apart := false, laid := [("wavelet/context.straight", laid_wavelet_context_straight), ("wavelet/context.diagonal", laid_wavelet_context_diagonal), ("wavelet/context.signs", laid_wavelet_context_signs)] }
def ContextSignsSaid : Prop := contextSignsRow.holds Tryd.pinned (OpenSpec.ofChange contextSignsSpec)

/-- ITS FALSE NEIGHBOUR: 'it returns false'. Refute it at one input. -/
def contextSignsWrong : ChangeSpec := { name := "contextSigns", fn := fun _ => fun
  | [d1, d2] => { results := [.lit (.bool false)], args := [d1, d2] }
  | _ => none }
def ContextSignsWrongFalsely : Prop := contextSignsRow.holds Tryd.pinned (OpenSpec.ofChange contextSignsWrong)

/-- 'waveletlaw13.ContextRefines': WHATEVER THE INPUT: true; the input reads as it did. -/
def contextRefinesSpec : ChangeSpec := { name := "contextRefines", fn := fun _ => fun
  | [d1, d2, d3] => { results := [.lit (.bool true)], args := [d1, d2, d3] }
  | _ => none }
def contextRefinesRow : OpenClaim := { program := "ythmhapkeadkhbaadoor", sum := "e8144e0725386ed07c01372d578d436532cd5c4ae982b19e926029017493c649", func := "wavelet/waveletlaw13.ContextRefines", spec := "contextRefines", named := ["wavelet/context.signs", "wavelet/context.diagonal", "wavelet/context.straight"], apart := false, laid := [("wavelet/context.straight", laid_wavelet_context_straight), ("wavelet/context.diagonal", laid_wavelet_context_diagonal), ("wavelet/context.signs", laid_wavelet_context_signs)] }
def ContextRefinesSaid : Prop := contextRefinesRow.holds Tryd.pinned (OpenSpec.ofChange contextRefinesSpec)

/-- ITS FALSE NEIGHBOUR: 'it returns false'. Refute it at one input. -/
def contextRefinesWrong : ChangeSpec := { name := "contextRefines", fn := fun _ => fun
  | [d1, d2, d3] => { results := [.lit (.bool false)], args := [d1, d2, d3] }
  | _ => none }
def ContextRefinesWrongFalsely : Prop := contextRefinesRow.holds Tryd.pinned (OpenSpec.ofChange contextRefinesWrong)

/-- 'waveletlaw13.ContextSymmetry': WHATEVER THE INPUT: true; the input reads as it did. -/
def contextSymmetrySpec : ChangeSpec := { name := "contextSymmetry", fn := fun _ => fun
  | [d] => { results := [.lit (.bool true)], args := [d] }
  | _ => none }
def contextSymmetryRow : OpenClaim := { program := "ythmhapkeadkhbaadoor", sum := "e8144e0725386ed07c01372d578d436532cd5c4ae982b19e926029017493c649", func := "wavelet/waveletlaw13.ContextSymmetry", spec := "contextSymmetry", named := ["wavelet/context.signs", "wavelet/context.diagonal", "wavelet/context.straight"], apart := false, laid := [("wavelet/context.straight", laid_wavelet_context_straight), ("wavelet/context.diagonal", laid_wavelet_context_diagonal), ("wavelet/context.signs", laid_wavelet_context_signs)] }
def ContextSymmetrySaid : Prop := contextSymmetryRow.holds Tryd.pinned (OpenSpec.ofChange contextSymmetrySpec)

/-- ITS FALSE NEIGHBOUR: 'it returns false'. Refute it at one input. -/
def contextSymmetryWrong : ChangeSpec := { name := "contextSymmetry", fn := fun _ => fun
  | [d] => { results := [.lit (.bool false)], args := [d] }
  | _ => none }
def ContextSymmetryWrongFalsely : Prop := contextSymmetryRow.holds Tryd.pinned (OpenSpec.ofChange contextSymmetryWrong)

/-- 'waveletlaw13.ContextOrder': WHATEVER THE INPUT: true; the input reads as it did. -/
def contextOrderSpec : ChangeSpec := { name := "contextOrder", fn := fun _ => fun
  | [d1, d2, d3] => { results := [.lit (.bool true)], args := [d1, d2, d3] }
  | _ => none }
def contextOrderRow : OpenClaim := { program := "ythmhapkeadkhbaadoor", sum := "e8144e0725386ed07c01372d578d436532cd5c4ae982b19e926029017493c649", func := "wavelet/waveletlaw13.ContextOrder", spec := "contextOrder", named := ["wavelet/context.diagonal", "wavelet/context.straight", "wavelet/context.signs"], apart := false, laid := [("wavelet/context.straight", laid_wavelet_context_straight), ("wavelet/context.diagonal", laid_wavelet_context_diagonal), ("wavelet/context.signs", laid_wavelet_context_signs)] }
def ContextOrderSaid : Prop := contextOrderRow.holds Tryd.pinned (OpenSpec.ofChange contextOrderSpec)

/-- ITS FALSE NEIGHBOUR: 'it returns false'. Refute it at one input. -/
def contextOrderWrong : ChangeSpec := { name := "contextOrder", fn := fun _ => fun
  | [d1, d2, d3] => { results := [.lit (.bool false)], args := [d1, d2, d3] }
  | _ => none }
def ContextOrderWrongFalsely : Prop := contextOrderRow.holds Tryd.pinned (OpenSpec.ofChange contextOrderWrong)

/- THE SECOND FORM. 'bulk': how many values and letters a reading holds, each counted each time it is reached (what is shared counts as often as it is met; a slice's spare places count too). A statement '..UptoSaid' is the law's where the arguments, and the package variables that the reading takes, are together of bulk at most 1048576: NARROWER than '..Said'. Prove '..Said' where nothing that the law and all that it calls make is longer than what came in: it says more and counts as full. Else prove '..UptoSaid'. A law counts once. -/
mutual
def uptoBulk {H : Type} : DataW H → Nat
  | .lit (.string bytes) => bytes.length + 1
  | .lit _ => 1
  | .nil => 1
  | .ptr d => uptoBulk d + 1
  | .slice elems spare => uptoBulkAll elems + uptoBulkAll spare + 1
  | .agg parts => uptoBulkAll parts + 1
  | .iface _ d => uptoBulk d + 1
  | .map entries => uptoBulkEntries entries + 1
  | .held _ => 1
def uptoBulkAll {H : Type} : List (DataW H) → Nat
  | [] => 0
  | d :: r => uptoBulk d + uptoBulkAll r
def uptoBulkEntries {H : Type} : List (Lit × DataW H) → Nat
  | [] => 0
  | x :: r => uptoBulkEntry x + uptoBulkEntries r
def uptoBulkEntry {H : Type} : Lit × DataW H → Nat
  | (.string bytes, d) => bytes.length + uptoBulk d + 1
  | (_, d) => uptoBulk d + 1
 end
def uptoSmall : (H : Type) → List (DataW H) → Bool := fun _ ds => decide (uptoBulkAll ds ≤ 1048576)
def OpenSpec.upto (s : _root_.Go.ChangeSpec) : _root_.Go.OpenSpec := { _root_.Go.OpenSpec.ofChange s with cond := some uptoSmall }

/-- 'waveletlaw13.ContextSignificance', WHERE WHAT IT READS IS OF BULK AT MOST 1048576: true; the input reads as it did. -/
def contextSignificanceUptoRow : OpenClaim := { program := "ythmhapkeadkhbaadoor", sum := "e8144e0725386ed07c01372d578d436532cd5c4ae982b19e926029017493c649", func := "wavelet/waveletlaw13.ContextSignificance", spec := "contextSignificance", named := ["wavelet/context.diagonal", "wavelet/context.straight", "wavelet/context.signs"], apart := false, laid := [("wavelet/context.straight", laid_wavelet_context_straight), ("wavelet/context.diagonal", laid_wavelet_context_diagonal), ("wavelet/context.signs", laid_wavelet_context_signs)], narrowed := true }
def ContextSignificanceUptoSaid : Prop := contextSignificanceUptoRow.holds Tryd.pinned (OpenSpec.upto contextSignificanceSpec)

/-- 'waveletlaw13.ContextSigns', WHERE WHAT IT READS IS OF BULK AT MOST 1048576: true; the input reads as it did. -/
def contextSignsUptoRow : OpenClaim := { program := "ythmhapkeadkhbaadoor", sum := "e8144e0725386ed07c01372d578d436532cd5c4ae982b19e926029017493c649", func := "wavelet/waveletlaw13.ContextSigns", spec := "contextSigns", recurses := true, named := ["wavelet/context.signs", "wavelet/context.diagonal", "wavelet/context.straight"], apart := false, laid := [("wavelet/context.straight", laid_wavelet_context_straight), ("wavelet/context.diagonal", laid_wavelet_context_diagonal), ("wavelet/context.signs", laid_wavelet_context_signs)], narrowed := true }
def ContextSignsUptoSaid : Prop := contextSignsUptoRow.holds Tryd.pinned (OpenSpec.upto contextSignsSpec)

/-- 'waveletlaw13.ContextRefines', WHERE WHAT IT READS IS OF BULK AT MOST 1048576: true; the input reads as it did. -/
def contextRefinesUptoRow : OpenClaim := { program := "ythmhapkeadkhbaadoor", sum := "e8144e0725386ed07c01372d578d436532cd5c4ae982b19e926029017493c649", func := "wavelet/waveletlaw13.ContextRefines", spec := "contextRefines", named := ["wavelet/context.signs", "wavelet/context.diagonal", "wavelet/context.straight"], apart := false, laid := [("wavelet/context.straight", laid_wavelet_context_straight), ("wavelet/context.diagonal", laid_wavelet_context_diagonal), ("wavelet/context.signs", laid_wavelet_context_signs)], narrowed := true }
def ContextRefinesUptoSaid : Prop := contextRefinesUptoRow.holds Tryd.pinned (OpenSpec.upto contextRefinesSpec)

/-- 'waveletlaw13.ContextSymmetry', WHERE WHAT IT READS IS OF BULK AT MOST 1048576: true; the input reads as it did. -/
def contextSymmetryUptoRow : OpenClaim := { program := "ythmhapkeadkhbaadoor", sum := "e8144e0725386ed07c01372d578d436532cd5c4ae982b19e926029017493c649", func := "wavelet/waveletlaw13.ContextSymmetry", spec := "contextSymmetry", named := ["wavelet/context.signs", "wavelet/context.diagonal", "wavelet/context.straight"], apart := false, laid := [("wavelet/context.straight", laid_wavelet_context_straight), ("wavelet/context.diagonal", laid_wavelet_context_diagonal), ("wavelet/context.signs", laid_wavelet_context_signs)], narrowed := true }
def ContextSymmetryUptoSaid : Prop := contextSymmetryUptoRow.holds Tryd.pinned (OpenSpec.upto contextSymmetrySpec)

/-- 'waveletlaw13.ContextOrder', WHERE WHAT IT READS IS OF BULK AT MOST 1048576: true; the input reads as it did. -/
def contextOrderUptoRow : OpenClaim := { program := "ythmhapkeadkhbaadoor", sum := "e8144e0725386ed07c01372d578d436532cd5c4ae982b19e926029017493c649", func := "wavelet/waveletlaw13.ContextOrder", spec := "contextOrder", named := ["wavelet/context.diagonal", "wavelet/context.straight", "wavelet/context.signs"], apart := false, laid := [("wavelet/context.straight", laid_wavelet_context_straight), ("wavelet/context.diagonal", laid_wavelet_context_diagonal), ("wavelet/context.signs", laid_wavelet_context_signs)], narrowed := true }
def ContextOrderUptoSaid : Prop := contextOrderUptoRow.holds Tryd.pinned (OpenSpec.upto contextOrderSpec)

end Rows
end Go.Proofs.YthmhapkeadkhbaaDoor
