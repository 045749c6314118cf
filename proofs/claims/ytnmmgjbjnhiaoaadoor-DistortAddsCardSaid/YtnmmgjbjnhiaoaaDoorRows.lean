/-
  NARROWER THAN 'FOR EVERY INPUT', by the rows' own cells (each row's printed sentence says how): DistortWeights: laid · DistortErrors: laid · DistortTotals: laid · DistortAdds: laid · DistortHalf: laid · BlockdecTruncates: laid.
  DERIVED. THE GIVEN ROWS OF THIS SEAT. 6 by the template 'for every input the law returns true; each argument reads behind the call as it read before'; 0 by the template 'total and deterministic' (their statements: YtnmmgjbjnhiaoaaDoorTotals.lean).
  GIVEN WITH THE SEED: the statements are not yours to turn. If you find one false, say at which input.
  Laid BY PROGRAM, IN A SANDBOX (cutbox-rows.mjs): the forced cells as the released guide's own fill.sh prints them over the translation 3f0996fb0fa27758… (all of the seat's roots in one cut). By AI agents, Wed Nov 11 2026. No macro, syntax, notation, axiom, sorry.
-/
import Derived.Test.YtnmmgjbjnhiaoaaDoorChecked
import GoSem.Claim
import GoSem.ClaimJoined
import GoSem.ClaimMapViews
import Derived.JoinedTies
import Derived.KernelRfl
namespace Go.Proofs.YtnmmgjbjnhiaoaaDoor
/- THE CELL 'sum', in the pinned program and in every row, IS THE sha256 OF THE DUMP (.gsa) THAT YtnmmgjbjnhiaoaaDoorProg.lean LOADS. Nothing in Lean hashes anything: it is a label: what it is worth is what the hold of that sum in a sandbox is worth. -/
noncomputable def Tryd.pinned : Pinned := { name := "ytnmmgjbjnhiaoaadoor", sum := "3f0996fb0fa2775812d905e394a672c9ef78034283c6165880f2fb7299edce58", checked := Tryd.checked }
namespace Rows
def none {H : Type} : Left H := { results := [], args := [] }

/- WHAT THE LISTED PACKAGE-LEVEL VARIABLES READ AS WHEN THE CALL BEGINS. Each datum BY PROGRAM (the guide's laid-datum.mjs) off the statement by which the dump's own 'gosem.cut.vars' lays the variable. In a bare row this is a premise. The card (YtnmmgjbjnhiaoaaDoorCards.lean) ties it to the program's text. -/
def laid_wavelet_context_straight {H : Type} : DataW H := .agg [.agg [.agg [.lit (.int .i64 0), .lit (.int .i64 1), .lit (.int .i64 2), .lit (.int .i64 2), .lit (.int .i64 2)], .agg [.lit (.int .i64 3), .lit (.int .i64 3), .lit (.int .i64 3), .lit (.int .i64 3), .lit (.int .i64 3)], .agg [.lit (.int .i64 4), .lit (.int .i64 4), .lit (.int .i64 4), .lit (.int .i64 4), .lit (.int .i64 4)]], .agg [.agg [.lit (.int .i64 5), .lit (.int .i64 6), .lit (.int .i64 6), .lit (.int .i64 6), .lit (.int .i64 6)], .agg [.lit (.int .i64 7), .lit (.int .i64 7), .lit (.int .i64 7), .lit (.int .i64 7), .lit (.int .i64 7)], .agg [.lit (.int .i64 7), .lit (.int .i64 7), .lit (.int .i64 7), .lit (.int .i64 7), .lit (.int .i64 7)]], .agg [.agg [.lit (.int .i64 8), .lit (.int .i64 8), .lit (.int .i64 8), .lit (.int .i64 8), .lit (.int .i64 8)], .agg [.lit (.int .i64 8), .lit (.int .i64 8), .lit (.int .i64 8), .lit (.int .i64 8), .lit (.int .i64 8)], .agg [.lit (.int .i64 8), .lit (.int .i64 8), .lit (.int .i64 8), .lit (.int .i64 8), .lit (.int .i64 8)]]]
def laid_wavelet_context_diagonal {H : Type} : DataW H := .agg [.agg [.lit (.int .i64 0), .lit (.int .i64 1), .lit (.int .i64 2), .lit (.int .i64 2), .lit (.int .i64 2)], .agg [.lit (.int .i64 3), .lit (.int .i64 4), .lit (.int .i64 5), .lit (.int .i64 5), .lit (.int .i64 5)], .agg [.lit (.int .i64 6), .lit (.int .i64 7), .lit (.int .i64 7), .lit (.int .i64 7), .lit (.int .i64 7)], .agg [.lit (.int .i64 8), .lit (.int .i64 8), .lit (.int .i64 8), .lit (.int .i64 8), .lit (.int .i64 8)], .agg [.lit (.int .i64 8), .lit (.int .i64 8), .lit (.int .i64 8), .lit (.int .i64 8), .lit (.int .i64 8)]]
def laid_wavelet_context_signs {H : Type} : DataW H := .agg [.agg [.agg [.lit (.int .i64 13), .lit (.int .i64 1)], .agg [.lit (.int .i64 12), .lit (.int .i64 1)], .agg [.lit (.int .i64 11), .lit (.int .i64 1)]], .agg [.agg [.lit (.int .i64 10), .lit (.int .i64 1)], .agg [.lit (.int .i64 9), .lit (.int .i64 0)], .agg [.lit (.int .i64 10), .lit (.int .i64 0)]], .agg [.agg [.lit (.int .i64 11), .lit (.int .i64 0)], .agg [.lit (.int .i64 12), .lit (.int .i64 0)], .agg [.lit (.int .i64 13), .lit (.int .i64 0)]]]

/-- 'waveletlaw19.DistortWeights': WHATEVER THE INPUT: true; the input reads as it did. -/
def distortWeightsSpec : ChangeSpec := { name := "distortWeights", fn := fun _ => fun
  | [d1, d2] => { results := [.lit (.bool true)], args := [d1, d2] }
  | _ => none }
def distortWeightsRow : OpenClaim := { program := "ytnmmgjbjnhiaoaadoor", sum := "3f0996fb0fa2775812d905e394a672c9ef78034283c6165880f2fb7299edce58", func := "wavelet/waveletlaw19.DistortWeights", spec := "distortWeights", unfollowed := true, recurses := true, named := ["wavelet/context.diagonal", "wavelet/context.straight", "wavelet/context.signs"], apart := false, laid := [("wavelet/context.straight", laid_wavelet_context_straight), ("wavelet/context.diagonal", laid_wavelet_context_diagonal), ("wavelet/context.signs", laid_wavelet_context_signs)] }
def DistortWeightsSaid : Prop := distortWeightsRow.holds Tryd.pinned (OpenSpec.ofChange distortWeightsSpec)

/-- ITS FALSE NEIGHBOUR: 'it returns false'. Refute it at one input. -/
def distortWeightsWrong : ChangeSpec := { name := "distortWeights", fn := fun _ => fun
  | [d1, d2] => { results := [.lit (.bool false)], args := [d1, d2] }
  | _ => none }
def DistortWeightsWrongFalsely : Prop := distortWeightsRow.holds Tryd.pinned (OpenSpec.ofChange distortWeightsWrong)

/-- 'waveletlaw19.DistortErrors': WHATEVER THE INPUT: true; the input reads as it did. -/
def distortErrorsSpec : ChangeSpec := { name := "distortErrors", fn := fun _ => fun
  | [d1, d2, d3] => { results := [.lit (.bool true)], args := [d1, d2, d3] }
  | _ => none }
def distortErrorsRow : OpenClaim := { program := "ytnmmgjbjnhiaoaadoor", sum := "3f0996fb0fa2775812d905e394a672c9ef78034283c6165880f2fb7299edce58", func := "wavelet/waveletlaw19.DistortErrors", spec := "distortErrors", unfollowed := true, recurses := true, named := ["wavelet/context.diagonal", "wavelet/context.straight", "wavelet/context.signs"], apart := false, laid := [("wavelet/context.straight", laid_wavelet_context_straight), ("wavelet/context.diagonal", laid_wavelet_context_diagonal), ("wavelet/context.signs", laid_wavelet_context_signs)] }
def DistortErrorsSaid : Prop := distortErrorsRow.holds Tryd.pinned (OpenSpec.ofChange distortErrorsSpec)

/-- ITS FALSE NEIGHBOUR: 'it returns false'. Refute it at one input. -/
def distortErrorsWrong : ChangeSpec := { name := "distortErrors", fn := fun _ => fun
  | [d1, d2, d3] => { results := [.lit (.bool false)], args := [d1, d2, d3] }
  | _ => none }
def DistortErrorsWrongFalsely : Prop := distortErrorsRow.holds Tryd.pinned (OpenSpec.ofChange distortErrorsWrong)

/-- 'waveletlaw19.DistortTotals': WHATEVER THE INPUT: true; the input reads as it did. -/
def distortTotalsSpec : ChangeSpec := { name := "distortTotals", fn := fun _ => fun
  | [d1, d2, d3] => { results := [.lit (.bool true)], args := [d1, d2, d3] }
  | _ => none }
def distortTotalsRow : OpenClaim := { program := "ytnmmgjbjnhiaoaadoor", sum := "3f0996fb0fa2775812d905e394a672c9ef78034283c6165880f2fb7299edce58", func := "wavelet/waveletlaw19.DistortTotals", spec := "distortTotals", unfollowed := true, recurses := true, named := ["wavelet/context.diagonal", "wavelet/context.straight", "wavelet/context.signs"], apart := false, laid := [("wavelet/context.straight", laid_wavelet_context_straight), ("wavelet/context.diagonal", laid_wavelet_context_diagonal), ("wavelet/context.signs", laid_wavelet_context_signs)] }
def DistortTotalsSaid : Prop := distortTotalsRow.holds Tryd.pinned (OpenSpec.ofChange distortTotalsSpec)

/-- ITS FALSE NEIGHBOUR: 'it returns false'. Refute it at one input. -/
def distortTotalsWrong : ChangeSpec := { name := "distortTotals", fn := fun _ => fun
  | [d1, d2, d3] => { results := [.lit (.bool false)], args := [d1, d2, d3] }
  | _ => none }
def DistortTotalsWrongFalsely : Prop := distortTotalsRow.holds Tryd.pinned (OpenSpec.ofChange distortTotalsWrong)

/-- 'waveletlaw19.DistortAdds': WHATEVER THE INPUT: true; the input reads as it did. -/
def distortAddsSpec : ChangeSpec := { name := "distortAdds", fn := fun _ => fun
  | [d1, d2, d3] => { results := [.lit (.bool true)], args := [d1, d2, d3] }
  | _ => none }
def distortAddsRow : OpenClaim := { program := "ytnmmgjbjnhiaoaadoor", sum := "3f0996fb0fa2775812d905e394a672c9ef78034283c6165880f2fb7299edce58", func := "wavelet/waveletlaw19.DistortAdds", spec := "distortAdds", unfollowed := true, recurses := true, named := ["wavelet/context.diagonal", "wavelet/context.straight", "wavelet/context.signs"], apart := false, laid := [("wavelet/context.straight", laid_wavelet_context_straight), ("wavelet/context.diagonal", laid_wavelet_context_diagonal), ("wavelet/context.signs", laid_wavelet_context_signs)] }
def DistortAddsSaid : Prop := distortAddsRow.holds Tryd.pinned (OpenSpec.ofChange distortAddsSpec)

/-- ITS FALSE NEIGHBOUR: 'it returns false'. Refute it at one input. -/
def distortAddsWrong : ChangeSpec := { name := "distortAdds", fn := fun _ => fun
  | [d1, d2, d3] => { results := [.lit (.bool false)], args := [d1, d2, d3] }
  | _ => none }
def DistortAddsWrongFalsely : Prop := distortAddsRow.holds Tryd.pinned (OpenSpec.ofChange distortAddsWrong)

/-- 'waveletlaw19.DistortHalf': WHATEVER THE INPUT: true; the input reads as it did. -/
def distortHalfSpec : ChangeSpec := { name := "distortHalf", fn := fun _ => fun
  | [d1, d2] => { results := [.lit (.bool true)], args := [d1, d2] }
  | _ => none }
def distortHalfRow : OpenClaim := { program := "ytnmmgjbjnhiaoaadoor", sum := "3f0996fb0fa2775812d905e394a672c9ef78034283c6165880f2fb7299edce58", func := "wavelet/waveletlaw19.DistortHalf", spec := "distortHalf", unfollowed := true, recurses := true, named := ["wavelet/context.diagonal", "wavelet/context.straight", "wavelet/context.signs"], apart := false, laid := [("wavelet/context.straight", laid_wavelet_context_straight), ("wavelet/context.diagonal", laid_wavelet_context_diagonal), ("wavelet/context.signs", laid_wavelet_context_signs)] }
def DistortHalfSaid : Prop := distortHalfRow.holds Tryd.pinned (OpenSpec.ofChange distortHalfSpec)

/-- ITS FALSE NEIGHBOUR: 'it returns false'. Refute it at one input. -/
def distortHalfWrong : ChangeSpec := { name := "distortHalf", fn := fun _ => fun
  | [d1, d2] => { results := [.lit (.bool false)], args := [d1, d2] }
  | _ => none }
def DistortHalfWrongFalsely : Prop := distortHalfRow.holds Tryd.pinned (OpenSpec.ofChange distortHalfWrong)

/-- 'waveletlaw18.BlockdecTruncates': WHATEVER THE INPUT: true; the input reads as it did. -/
def blockdecTruncatesSpec : ChangeSpec := { name := "blockdecTruncates", fn := fun _ => fun
  | [d1, d2, d3] => { results := [.lit (.bool true)], args := [d1, d2, d3] }
  | _ => none }
def blockdecTruncatesRow : OpenClaim := { program := "ytnmmgjbjnhiaoaadoor", sum := "3f0996fb0fa2775812d905e394a672c9ef78034283c6165880f2fb7299edce58", func := "wavelet/waveletlaw18.BlockdecTruncates", spec := "blockdecTruncates", unfollowed := true, recurses := true, named := ["wavelet/context.diagonal", "wavelet/context.straight", "wavelet/context.signs"], apart := false, laid := [("wavelet/context.straight", laid_wavelet_context_straight), ("wavelet/context.diagonal", laid_wavelet_context_diagonal), ("wavelet/context.signs", laid_wavelet_context_signs)] }
def BlockdecTruncatesSaid : Prop := blockdecTruncatesRow.holds Tryd.pinned (OpenSpec.ofChange blockdecTruncatesSpec)

/-- ITS FALSE NEIGHBOUR: 'it returns false'. Refute it at one input. -/
def blockdecTruncatesWrong : ChangeSpec := { name := "blockdecTruncates", fn := fun _ => fun
  | [d1, d2, d3] => { results := [.lit (.bool false)], args := [d1, d2, d3] }
  | _ => none }
def BlockdecTruncatesWrongFalsely : Prop := blockdecTruncatesRow.holds Tryd.pinned (OpenSpec.ofChange blockdecTruncatesWrong)

/- THE SECOND FORM. 'bulk': how many values and letters a reading holds, each counted each time it is reached (what is shared counts as often as it is met; a slice's spare places count too). A statement '..UptoSaid' is the law's where the arguments, and the package variables that the reading takes, are together of bulk at most 1048576: NARROWER than '..Said'. Prove '..Said' where nothing that the law and all that it calls make is longer than what came in: it says more and counts as full. Else prove '..UptoSaid'. A law counts once. -/
mutual
def uptoBulk {H : Type} : DataW H → Nat
  | .lit (.string bytes) => bytes.length + 1
  | .lit _ => 1
  | .nil => 1
  | .ptr d => uptoBulk d + 1
  | .slice elems spare => uptoBulkAll elems + uptoBulkAll spare + 1
  | .agg parts => uptoBulkAll parts + 1
  | .iface _ d => uptoBulk d + 1
  | .map entries => uptoBulkEntries entries + 1
  | .held _ => 1
def uptoBulkAll {H : Type} : List (DataW H) → Nat
  | [] => 0
  | d :: r => uptoBulk d + uptoBulkAll r
def uptoBulkEntries {H : Type} : List (Lit × DataW H) → Nat
  | [] => 0
  | x :: r => uptoBulkEntry x + uptoBulkEntries r
def uptoBulkEntry {H : Type} : Lit × DataW H → Nat
  | (.string bytes, d) => bytes.length + uptoBulk d + 1
  | (_, d) => uptoBulk d + 1
 end
def uptoSmall : (H : Type) → List (DataW H) → Bool := fun _ ds => decide (uptoBulkAll ds ≤ 1048576)
def OpenSpec.upto (s : _root_.Go.ChangeSpec) : _root_.Go.OpenSpec := { _root_.Go.OpenSpec.ofChange s with cond := some uptoSmall }

/-- 'waveletlaw19.DistortWeights', WHERE WHAT IT READS IS OF BULK AT MOST 1048576: true; the input reads as it did. -/
def distortWeightsUptoRow : OpenClaim := { program := "ytnmmgjbjnhiaoaadoor", sum := "3f0996fb0fa2775812d905e394a672c9ef78034283c6165880f2fb7299edce58", func := "wavelet/waveletlaw19.DistortWeights", spec := "distortWeights", unfollowed := true, recurses := true, named := ["wavelet/context.diagonal", "wavelet/context.straight", "wavelet/context.signs"], apart := false, laid := [("wavelet/context.straight", laid_wavelet_context_straight), ("wavelet/context.diagonal", laid_wavelet_context_diagonal), ("wavelet/context.signs", laid_wavelet_context_signs)], narrowed := true }
def DistortWeightsUptoSaid : Prop := distortWeightsUptoRow.holds Tryd.pinned (OpenSpec.upto distortWeightsSpec)

/-- 'waveletlaw19.DistortErrors', WHERE WHAT IT READS IS OF BULK AT MOST 1048576: true; the input reads as it did. -/
def distortErrorsUptoRow : OpenClaim := { program := "ytnmmgjbjnhiaoaadoor", sum := "3f0996fb0fa2775812d905e394a672c9ef78034283c6165880f2fb7299edce58", func := "wavelet/waveletlaw19.DistortErrors", spec := "distortErrors", unfollowed := true, recurses := true, named := ["wavelet/context.diagonal", "wavelet/context.straight", "wavelet/context.signs"], apart := false, laid := [("wavelet/context.straight", laid_wavelet_context_straight), ("wavelet/context.diagonal", laid_wavelet_context_diagonal), ("wavelet/context.signs", laid_wavelet_context_signs)], narrowed := true }
def DistortErrorsUptoSaid : Prop := distortErrorsUptoRow.holds Tryd.pinned (OpenSpec.upto distortErrorsSpec)

/-- 'waveletlaw19.DistortTotals', WHERE WHAT IT READS IS OF BULK AT MOST 1048576: true; the input reads as it did. -/
def distortTotalsUptoRow : OpenClaim := { program := "ytnmmgjbjnhiaoaadoor", sum := "3f0996fb0fa2775812d905e394a672c9ef78034283c6165880f2fb7299edce58", func := "wavelet/waveletlaw19.DistortTotals", spec := "distortTotals", unfollowed := true, recurses := true, named := ["wavelet/context.diagonal", "wavelet/context.straight", "wavelet/context.signs"], apart := false, laid := [("wavelet/context.straight", laid_wavelet_context_straight), ("wavelet/context.diagonal", laid_wavelet_context_diagonal), ("wavelet/context.signs", laid_wavelet_context_signs)], narrowed := true }
def DistortTotalsUptoSaid : Prop := distortTotalsUptoRow.holds Tryd.pinned (OpenSpec.upto distortTotalsSpec)

/-- 'waveletlaw19.DistortAdds', WHERE WHAT IT READS IS OF BULK AT MOST 1048576: true; the input reads as it did. -/
def distortAddsUptoRow : OpenClaim := { program := "ytnmmgjbjnhiaoaadoor", sum := "3f0996fb0fa2775812d905e394a672c9ef78034283c6165880f2fb7299edce58", func := "wavelet/waveletlaw19.DistortAdds", spec := "distortAdds", unfollowed := true, recurses := true, named := ["wavelet/context.diagonal", "wavelet/context.straight", "wavelet/context.signs"], apart := false, laid := [("wavelet/context.straight", laid_wavelet_context_straight), ("wavelet/context.diagonal", laid_wavelet_context_diagonal), ("wavelet/context.signs", laid_wavelet_context_signs)], narrowed := true }
def DistortAddsUptoSaid : Prop := distortAddsUptoRow.holds Tryd.pinned (OpenSpec.upto distortAddsSpec)

/-- 'waveletlaw19.DistortHalf', WHERE WHAT IT READS IS OF BULK AT MOST 1048576: true; the input reads as it did. -/
def distortHalfUptoRow : OpenClaim := { program := "ytnmmgjbjnhiaoaadoor", sum := "3f0996fb0fa2775812d905e394a672c9ef78034283c6165880f2fb7299edce58", func := "wavelet/waveletlaw19.DistortHalf", spec := "distortHalf", unfollowed := true, recurses := true, named := ["wavelet/context.diagonal", "wavelet/context.straight", "wavelet/context.signs"], apart := false, laid := [("wavelet/context.straight", laid_wavelet_context_straight), ("wavelet/context.diagonal", laid_wavelet_context_diagonal), ("wavelet/context.signs", laid_wavelet_context_signs)], narrowed := true }
def DistortHalfUptoSaid : Prop := distortHalfUptoRow.holds Tryd.pinned (OpenSpec.upto distortHalfSpec)

/-- 'waveletlaw18.BlockdecTruncates', WHERE WHAT IT READS IS OF BULK AT MOST 1048576: true; the input reads as it did. -/
def blockdecTruncatesUptoRow : OpenClaim := { program := "ytnmmgjbjnhiaoaadoor", sum := "3f0996fb0fa2775812d905e394a672c9ef78034283c6165880f2fb7299edce58", func := "wavelet/waveletlaw18.BlockdecTruncates", spec := "blockdecTruncates", unfollowed := true, recurses := true, named := ["wavelet/context.diagonal", "wavelet/context.straight", "wavelet/context.signs"], apart := false, laid := [("wavelet/context.straight", laid_wavelet_context_straight), ("wavelet/context.diagonal", laid_wavelet_context_diagonal), ("wavelet/context.signs", laid_wavelet_context_signs)], narrowed := true }
def BlockdecTruncatesUptoSaid : Prop := blockdecTruncatesUptoRow.holds Tryd.pinned (OpenSpec.upto blockdecTruncatesSpec)

end Rows
end Go.Proofs.YtnmmgjbjnhiaoaaDoor
