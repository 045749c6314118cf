/-
  NARROWER THAN 'FOR EVERY INPUT', by the rows' own cells (each row's printed sentence says how): BlockencValidates: laid · BlockencTruncates: laid · BlockencFits: laid · BlockencCuts: laid · BlockdecTruncates: laid.
  DERIVED. THE GIVEN ROWS OF THIS SEAT. 5 by the template 'for every input the law returns true; each argument reads behind the call as it read before'; 0 by the template 'total and deterministic' (their statements: YtklchodbnjebnaaDoorTotals.lean).
  GIVEN WITH THE SEED: the statements are not yours to turn. If you find one false, say at which input.
  Laid BY PROGRAM, IN A SANDBOX (cutbox-rows.mjs): the forced cells as the released guide's own fill.sh prints them over the translation f61cef1670e9c540… (all of the seat's roots in one cut). By AI agents, Wed Nov 11 2026. No macro, syntax, notation, axiom, sorry.
-/
import Derived.Test.YtklchodbnjebnaaDoorChecked
import GoSem.Claim
import GoSem.ClaimJoined
import GoSem.ClaimMapViews
import Derived.JoinedTies
import Derived.KernelRfl
namespace Go.Proofs.YtklchodbnjebnaaDoor
/- THE CELL 'sum', in the pinned program and in every row, IS THE sha256 OF THE DUMP (.gsa) THAT YtklchodbnjebnaaDoorProg.lean LOADS. Nothing in Lean hashes anything: it is a label: what it is worth is what the hold of that sum in a sandbox is worth. -/
noncomputable def Tryd.pinned : Pinned := { name := "ytklchodbnjebnaadoor", sum := "f61cef1670e9c54094bb71edeef63d25026308197b920969bae2675ceeadcc83", checked := Tryd.checked }
namespace Rows
def none {H : Type} : Left H := { results := [], args := [] }

/- WHAT THE LISTED PACKAGE-LEVEL VARIABLES READ AS WHEN THE CALL BEGINS. Each datum BY PROGRAM (the guide's laid-datum.mjs) off the statement by which the dump's own 'gosem.cut.vars' lays the variable. In a bare row this is a premise. The card (YtklchodbnjebnaaDoorCards.lean) ties it to the program's text. -/
def laid_wavelet_context_straight {H : Type} : DataW H := .agg [.agg [.agg [.lit (.int .i64 0), .lit (.int .i64 1), .lit (.int .i64 2), .lit (.int .i64 2), .lit (.int .i64 2)], .agg [.lit (.int .i64 3), .lit (.int .i64 3), .lit (.int .i64 3), .lit (.int .i64 3), .lit (.int .i64 3)], .agg [.lit (.int .i64 4), .lit (.int .i64 4), .lit (.int .i64 4), .lit (.int .i64 4), .lit (.int .i64 4)]], .agg [.agg [.lit (.int .i64 5), .lit (.int .i64 6), .lit (.int .i64 6), .lit (.int .i64 6), .lit (.int .i64 6)], .agg [.lit (.int .i64 7), .lit (.int .i64 7), .lit (.int .i64 7), .lit (.int .i64 7), .lit (.int .i64 7)], .agg [.lit (.int .i64 7), .lit (.int .i64 7), .lit (.int .i64 7), .lit (.int .i64 7), .lit (.int .i64 7)]], .agg [.agg [.lit (.int .i64 8), .lit (.int .i64 8), .lit (.int .i64 8), .lit (.int .i64 8), .lit (.int .i64 8)], .agg [.lit (.int .i64 8), .lit (.int .i64 8), .lit (.int .i64 8), .lit (.int .i64 8), .lit (.int .i64 8)], .agg [.lit (.int .i64 8), .lit (.int .i64 8), .lit (.int .i64 8), .lit (.int .i64 8), .lit (.int .i64 8)]]]
def laid_wavelet_context_diagonal {H : Type} : DataW H := .agg [.agg [.lit (.int .i64 0), .lit (.int .i64 1), .lit (.int .i64 2), .lit (.int .i64 2), .lit (.int .i64 2)], .agg [.lit (.int .i64 3), .lit (.int .i64 4), .lit (.int .i64 5), .lit (.int .i64 5), .lit (.int .i64 5)], .agg [.lit (.int .i64 6), .lit (.int .i64 7), .lit (.int .i64 7), .lit (.int .i64 7), .lit (.int .i64 7)], .agg [.lit (.int .i64 8), .lit (.int .i64 8), .lit (.int .i64 8), .lit (.int .i64 8), .lit (.int .i64 8)], .agg [.lit (.int .i64 8), .lit (.int .i64 8), .lit (.int .i64 8), .lit (.int .i64 8), .lit (.int .i64 8)]]
def laid_wavelet_context_signs {H : Type} : DataW H := .agg [.agg [.agg [.lit (.int .i64 13), .lit (.int .i64 1)], .agg [.lit (.int .i64 12), .lit (.int .i64 1)], .agg [.lit (.int .i64 11), .lit (.int .i64 1)]], .agg [.agg [.lit (.int .i64 10), .lit (.int .i64 1)], .agg [.lit (.int .i64 9), .lit (.int .i64 0)], .agg [.lit (.int .i64 10), .lit (.int .i64 0)]], .agg [.agg [.lit (.int .i64 11), .lit (.int .i64 0)], .agg [.lit (.int .i64 12), .lit (.int .i64 0)], .agg [.lit (.int .i64 13), .lit (.int .i64 0)]]]

/-- 'waveletlaw17.BlockencValidates': WHATEVER THE INPUT: true; the input reads as it did. -/
def blockencValidatesSpec : ChangeSpec := { name := "blockencValidates", fn := fun _ => fun
  | [d1, d2] => { results := [.lit (.bool true)], args := [d1, d2] }
  | _ => none }
def blockencValidatesRow : OpenClaim := { program := "ytklchodbnjebnaadoor", sum := "f61cef1670e9c54094bb71edeef63d25026308197b920969bae2675ceeadcc83", func := "wavelet/waveletlaw17.BlockencValidates", spec := "blockencValidates", unfollowed := true, recurses := true, named := ["wavelet/context.diagonal", "wavelet/context.straight", "wavelet/context.signs"], apart := false, laid := [("wavelet/context.straight", laid_wavelet_context_straight), ("wavelet/context.diagonal", laid_wavelet_context_diagonal), ("wavelet/context.signs", laid_wavelet_context_signs)] }
def BlockencValidatesSaid : Prop := blockencValidatesRow.holds Tryd.pinned (OpenSpec.ofChange blockencValidatesSpec)

/-- ITS FALSE NEIGHBOUR: 'it returns false'. Refute it at one input. -/
def blockencValidatesWrong : ChangeSpec := { name := "blockencValidates", fn := fun _ => fun
  | [d1, d2] => { results := [.lit (.bool false)], args := [d1, d2] }
  | _ => none }
def BlockencValidatesWrongFalsely : Prop := blockencValidatesRow.holds Tryd.pinned (OpenSpec.ofChange blockencValidatesWrong)

/-- 'waveletlaw17.BlockencTruncates': WHATEVER THE INPUT: true; the input reads as it did. -/
def blockencTruncatesSpec : ChangeSpec := { name := "blockencTruncates", fn := fun _ => fun
  | [d1, d2, d3] => { results := [.lit (.bool true)], args := [d1, d2, d3] }
  | _ => none }
def blockencTruncatesRow : OpenClaim := { program := "ytklchodbnjebnaadoor", sum := "f61cef1670e9c54094bb71edeef63d25026308197b920969bae2675ceeadcc83", func := "wavelet/waveletlaw17.BlockencTruncates", spec := "blockencTruncates", unfollowed := true, recurses := true, named := ["wavelet/context.diagonal", "wavelet/context.straight", "wavelet/context.signs"], apart := false, laid := [("wavelet/context.straight", laid_wavelet_context_straight), ("wavelet/context.diagonal", laid_wavelet_context_diagonal), ("wavelet/context.signs", laid_wavelet_context_signs)] }
def BlockencTruncatesSaid : Prop := blockencTruncatesRow.holds Tryd.pinned (OpenSpec.ofChange blockencTruncatesSpec)

/-- ITS FALSE NEIGHBOUR: 'it returns false'. Refute it at one input. -/
def blockencTruncatesWrong : ChangeSpec := { name := "blockencTruncates", fn := fun _ => fun
  | [d1, d2, d3] => { results := [.lit (.bool false)], args := [d1, d2, d3] }
  | _ => none }
def BlockencTruncatesWrongFalsely : Prop := blockencTruncatesRow.holds Tryd.pinned (OpenSpec.ofChange blockencTruncatesWrong)

/-- 'waveletlaw17.BlockencFits': WHATEVER THE INPUT: true; the input reads as it did. -/
def blockencFitsSpec : ChangeSpec := { name := "blockencFits", fn := fun _ => fun
  | [d1, d2] => { results := [.lit (.bool true)], args := [d1, d2] }
  | _ => none }
def blockencFitsRow : OpenClaim := { program := "ytklchodbnjebnaadoor", sum := "f61cef1670e9c54094bb71edeef63d25026308197b920969bae2675ceeadcc83", func := "wavelet/waveletlaw17.BlockencFits", spec := "blockencFits", unfollowed := true, recurses := true, named := ["wavelet/context.diagonal", "wavelet/context.straight", "wavelet/context.signs"], apart := false, laid := [("wavelet/context.straight", laid_wavelet_context_straight), ("wavelet/context.diagonal", laid_wavelet_context_diagonal), ("wavelet/context.signs", laid_wavelet_context_signs)] }
def BlockencFitsSaid : Prop := blockencFitsRow.holds Tryd.pinned (OpenSpec.ofChange blockencFitsSpec)

/-- ITS FALSE NEIGHBOUR: 'it returns false'. Refute it at one input. -/
def blockencFitsWrong : ChangeSpec := { name := "blockencFits", fn := fun _ => fun
  | [d1, d2] => { results := [.lit (.bool false)], args := [d1, d2] }
  | _ => none }
def BlockencFitsWrongFalsely : Prop := blockencFitsRow.holds Tryd.pinned (OpenSpec.ofChange blockencFitsWrong)

/-- 'waveletlaw17.BlockencCuts': WHATEVER THE INPUT: true; the input reads as it did. -/
def blockencCutsSpec : ChangeSpec := { name := "blockencCuts", fn := fun _ => fun
  | [d1, d2, d3] => { results := [.lit (.bool true)], args := [d1, d2, d3] }
  | _ => none }
def blockencCutsRow : OpenClaim := { program := "ytklchodbnjebnaadoor", sum := "f61cef1670e9c54094bb71edeef63d25026308197b920969bae2675ceeadcc83", func := "wavelet/waveletlaw17.BlockencCuts", spec := "blockencCuts", unfollowed := true, recurses := true, named := ["wavelet/context.diagonal", "wavelet/context.straight", "wavelet/context.signs"], apart := false, laid := [("wavelet/context.straight", laid_wavelet_context_straight), ("wavelet/context.diagonal", laid_wavelet_context_diagonal), ("wavelet/context.signs", laid_wavelet_context_signs)] }
def BlockencCutsSaid : Prop := blockencCutsRow.holds Tryd.pinned (OpenSpec.ofChange blockencCutsSpec)

/-- ITS FALSE NEIGHBOUR: 'it returns false'. Refute it at one input. -/
def blockencCutsWrong : ChangeSpec := { name := "blockencCuts", fn := fun _ => fun
  | [d1, d2, d3] => { results := [.lit (.bool false)], args := [d1, d2, d3] }
  | _ => none }
def BlockencCutsWrongFalsely : Prop := blockencCutsRow.holds Tryd.pinned (OpenSpec.ofChange blockencCutsWrong)

/-- 'waveletlaw18.BlockdecTruncates': WHATEVER THE INPUT: true; the input reads as it did. -/
def blockdecTruncatesSpec : ChangeSpec := { name := "blockdecTruncates", fn := fun _ => fun
  | [d1, d2, d3] => { results := [.lit (.bool true)], args := [d1, d2, d3] }
  | _ => none }
def blockdecTruncatesRow : OpenClaim := { program := "ytklchodbnjebnaadoor", sum := "f61cef1670e9c54094bb71edeef63d25026308197b920969bae2675ceeadcc83", func := "wavelet/waveletlaw18.BlockdecTruncates", spec := "blockdecTruncates", unfollowed := true, recurses := true, named := ["wavelet/context.diagonal", "wavelet/context.straight", "wavelet/context.signs"], apart := false, laid := [("wavelet/context.straight", laid_wavelet_context_straight), ("wavelet/context.diagonal", laid_wavelet_context_diagonal), ("wavelet/context.signs", laid_wavelet_context_signs)] }
def BlockdecTruncatesSaid : Prop := blockdecTruncatesRow.holds Tryd.pinned (OpenSpec.ofChange blockdecTruncatesSpec)

/-- ITS FALSE NEIGHBOUR: 'it returns false'. Refute it at one input. -/
def blockdecTruncatesWrong : ChangeSpec := { name := "blockdecTruncates", fn := fun _ => fun
  | [d1, d2, d3] => { results := [.lit (.bool false)], args := [d1, d2, d3] }
  | _ => none }
def BlockdecTruncatesWrongFalsely : Prop := blockdecTruncatesRow.holds Tryd.pinned (OpenSpec.ofChange blockdecTruncatesWrong)

/- THE SECOND FORM. 'bulk': how many values and letters a reading holds, each counted each time it is reached (what is shared counts as often as it is met; a slice's spare places count too). A statement '..UptoSaid' is the law's where the arguments, and the package variables that the reading takes, are together of bulk at most 1048576: NARROWER than '..Said'. Prove '..Said' where nothing that the law and all that it calls make is longer than what came in: it says more and counts as full. Else prove '..UptoSaid'. A law counts once. -/
mutual
def uptoBulk {H : Type} : DataW H → Nat
  | .lit (.string bytes) => bytes.length + 1
  | .lit _ => 1
  | .nil => 1
  | .ptr d => uptoBulk d + 1
  | .slice elems spare => uptoBulkAll elems + uptoBulkAll spare + 1
  | .agg parts => uptoBulkAll parts + 1
  | .iface _ d => uptoBulk d + 1
  | .map entries => uptoBulkEntries entries + 1
  | .held _ => 1
def uptoBulkAll {H : Type} : List (DataW H) → Nat
  | [] => 0
  | d :: r => uptoBulk d + uptoBulkAll r
def uptoBulkEntries {H : Type} : List (Lit × DataW H) → Nat
  | [] => 0
  | x :: r => uptoBulkEntry x + uptoBulkEntries r
def uptoBulkEntry {H : Type} : Lit × DataW H → Nat
  | (.string bytes, d) => bytes.length + uptoBulk d + 1
  | (_, d) => uptoBulk d + 1
 end
def uptoSmall : (H : Type) → List (DataW H) → Bool := fun _ ds => decide (uptoBulkAll ds ≤ 1048576)
def OpenSpec.upto (s : _root_.Go.ChangeSpec) : _root_.Go.OpenSpec := { _root_.Go.OpenSpec.ofChange s with cond := some uptoSmall }

/-- 'waveletlaw17.BlockencValidates', WHERE WHAT IT READS IS OF BULK AT MOST 1048576: true; the input reads as it did. -/
def blockencValidatesUptoRow : OpenClaim := { program := "ytklchodbnjebnaadoor", sum := "f61cef1670e9c54094bb71edeef63d25026308197b920969bae2675ceeadcc83", func := "wavelet/waveletlaw17.BlockencValidates", spec := "blockencValidates", unfollowed := true, recurses := true, named := ["wavelet/context.diagonal", "wavelet/context.straight", "wavelet/context.signs"], apart := false, laid := [("wavelet/context.straight", laid_wavelet_context_straight), ("wavelet/context.diagonal", laid_wavelet_context_diagonal), ("wavelet/context.signs", laid_wavelet_context_signs)], narrowed := true }
def BlockencValidatesUptoSaid : Prop := blockencValidatesUptoRow.holds Tryd.pinned (OpenSpec.upto blockencValidatesSpec)

/-- 'waveletlaw17.BlockencTruncates', WHERE WHAT IT READS IS OF BULK AT MOST 1048576: true; the input reads as it did. -/
def blockencTruncatesUptoRow : OpenClaim := { program := "ytklchodbnjebnaadoor", sum := "f61cef1670e9c54094bb71edeef63d25026308197b920969bae2675ceeadcc83", func := "wavelet/waveletlaw17.BlockencTruncates", spec := "blockencTruncates", unfollowed := true, recurses := true, named := ["wavelet/context.diagonal", "wavelet/context.straight", "wavelet/context.signs"], apart := false, laid := [("wavelet/context.straight", laid_wavelet_context_straight), ("wavelet/context.diagonal", laid_wavelet_context_diagonal), ("wavelet/context.signs", laid_wavelet_context_signs)], narrowed := true }
def BlockencTruncatesUptoSaid : Prop := blockencTruncatesUptoRow.holds Tryd.pinned (OpenSpec.upto blockencTruncatesSpec)

/-- 'waveletlaw17.BlockencFits', WHERE WHAT IT READS IS OF BULK AT MOST 1048576: true; the input reads as it did. -/
def blockencFitsUptoRow : OpenClaim := { program := "ytklchodbnjebnaadoor", sum := "f61cef1670e9c54094bb71edeef63d25026308197b920969bae2675ceeadcc83", func := "wavelet/waveletlaw17.BlockencFits", spec := "blockencFits", unfollowed := true, recurses := true, named := ["wavelet/context.diagonal", "wavelet/context.straight", "wavelet/context.signs"], apart := false, laid := [("wavelet/context.straight", laid_wavelet_context_straight), ("wavelet/context.diagonal", laid_wavelet_context_diagonal), ("wavelet/context.signs", laid_wavelet_context_signs)], narrowed := true }
def BlockencFitsUptoSaid : Prop := blockencFitsUptoRow.holds Tryd.pinned (OpenSpec.upto blockencFitsSpec)

/-- 'waveletlaw17.BlockencCuts', WHERE WHAT IT READS IS OF BULK AT MOST 1048576: true; the input reads as it did. -/
def blockencCutsUptoRow : OpenClaim := { program := "ytklchodbnjebnaadoor", sum := "f61cef1670e9c54094bb71edeef63d25026308197b920969bae2675ceeadcc83", func := "wavelet/waveletlaw17.BlockencCuts", spec := "blockencCuts", unfollowed := true, recurses := true, named := ["wavelet/context.diagonal", "wavelet/context.straight", "wavelet/context.signs"], apart := false, laid := [("wavelet/context.straight", laid_wavelet_context_straight), ("wavelet/context.diagonal", laid_wavelet_context_diagonal), ("wavelet/context.signs", laid_wavelet_context_signs)], narrowed := true }
def BlockencCutsUptoSaid : Prop := blockencCutsUptoRow.holds Tryd.pinned (OpenSpec.upto blockencCutsSpec)

/-- 'waveletlaw18.BlockdecTruncates', WHERE WHAT IT READS IS OF BULK AT MOST 1048576: true; the input reads as it did. -/
def blockdecTruncatesUptoRow : OpenClaim := { program := "ytklchodbnjebnaadoor", sum := "f61cef1670e9c54094bb71edeef63d25026308197b920969bae2675ceeadcc83", func := "wavelet/waveletlaw18.BlockdecTruncates", spec := "blockdecTruncates", unfollowed := true, recurses := true, named := ["wavelet/context.diagonal", "wavelet/context.straight", "wavelet/context.signs"], apart := false, laid := [("wavelet/context.straight", laid_wavelet_context_straight), ("wavelet/context.diagonal", laid_wavelet_context_diagonal), ("wavelet/context.signs", laid_wavelet_context_signs)], narrowed := true }
def BlockdecTruncatesUptoSaid : Prop := blockdecTruncatesUptoRow.holds Tryd.pinned (OpenSpec.upto blockdecTruncatesSpec)

end Rows
end Go.Proofs.YtklchodbnjebnaaDoor
