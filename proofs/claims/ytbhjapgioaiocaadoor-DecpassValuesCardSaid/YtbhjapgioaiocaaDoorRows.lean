/-
  NARROWER THAN 'FOR EVERY INPUT', by the rows' own cells (each row's printed sentence says how): EncpassRuns: laid · EncpassSymbols: laid · EncpassPlanes: laid · EncpassShape: laid · EncpassPrefix: laid · EncpassCovers: laid · EncpassNobody: laid · DecpassValues: laid · DecpassReturns: laid · DecpassPrefix: laid · DecpassRejects: laid · DecpassNobody: laid.
  DERIVED. THE GIVEN ROWS OF THIS SEAT. 12 by the template 'for every input the law returns true; each argument reads behind the call as it read before'; 0 by the template 'total and deterministic' (their statements: YtbhjapgioaiocaaDoorTotals.lean).
  GIVEN WITH THE SEED: the statements are not yours to turn. If you find one false, say at which input.
  Laid BY PROGRAM, IN A SANDBOX (cutbox-rows.mjs): the forced cells as the released guide's own fill.sh prints them over the translation d7c3868e5fd80a11… (all of the seat's roots in one cut). By AI agents, Wed Nov 11 2026. No macro, syntax, notation, axiom, sorry.
-/
import Derived.Test.YtbhjapgioaiocaaDoorChecked
import GoSem.Claim
import GoSem.ClaimJoined
import GoSem.ClaimMapViews
import Derived.JoinedTies
import Derived.KernelRfl
namespace Go.Proofs.YtbhjapgioaiocaaDoor
/- THE CELL 'sum', in the pinned program and in every row, IS THE sha256 OF THE DUMP (.gsa) THAT YtbhjapgioaiocaaDoorProg.lean LOADS. Nothing in Lean hashes anything: it is a label: what it is worth is what the hold of that sum in a sandbox is worth. -/
noncomputable def Tryd.pinned : Pinned := { name := "ytbhjapgioaiocaadoor", sum := "d7c3868e5fd80a1125e571736d2268816f2545e77b7ae261548b438bf7c314cb", checked := Tryd.checked }
namespace Rows
def none {H : Type} : Left H := { results := [], args := [] }

/- WHAT THE LISTED PACKAGE-LEVEL VARIABLES READ AS WHEN THE CALL BEGINS. Each datum BY PROGRAM (the guide's laid-datum.mjs) off the statement by which the dump's own 'gosem.cut.vars' lays the variable. In a bare row this is a premise. The card (YtbhjapgioaiocaaDoorCards.lean) ties it to the program's text. -/
def laid_wavelet_context_straight {H : Type} : DataW H := .agg [.agg [.agg [.lit (.int .i64 0), .lit (.int .i64 1), .lit (.int .i64 2), .lit (.int .i64 2), .lit (.int .i64 2)], .agg [.lit (.int .i64 3), .lit (.int .i64 3), .lit (.int .i64 3), .lit (.int .i64 3), .lit (.int .i64 3)], .agg [.lit (.int .i64 4), .lit (.int .i64 4), .lit (.int .i64 4), .lit (.int .i64 4), .lit (.int .i64 4)]], .agg [.agg [.lit (.int .i64 5), .lit (.int .i64 6), .lit (.int .i64 6), .lit (.int .i64 6), .lit (.int .i64 6)], .agg [.lit (.int .i64 7), .lit (.int .i64 7), .lit (.int .i64 7), .lit (.int .i64 7), .lit (.int .i64 7)], .agg [.lit (.int .i64 7), .lit (.int .i64 7), .lit (.int .i64 7), .lit (.int .i64 7), .lit (.int .i64 7)]], .agg [.agg [.lit (.int .i64 8), .lit (.int .i64 8), .lit (.int .i64 8), .lit (.int .i64 8), .lit (.int .i64 8)], .agg [.lit (.int .i64 8), .lit (.int .i64 8), .lit (.int .i64 8), .lit (.int .i64 8), .lit (.int .i64 8)], .agg [.lit (.int .i64 8), .lit (.int .i64 8), .lit (.int .i64 8), .lit (.int .i64 8), .lit (.int .i64 8)]]]
def laid_wavelet_context_diagonal {H : Type} : DataW H := .agg [.agg [.lit (.int .i64 0), .lit (.int .i64 1), .lit (.int .i64 2), .lit (.int .i64 2), .lit (.int .i64 2)], .agg [.lit (.int .i64 3), .lit (.int .i64 4), .lit (.int .i64 5), .lit (.int .i64 5), .lit (.int .i64 5)], .agg [.lit (.int .i64 6), .lit (.int .i64 7), .lit (.int .i64 7), .lit (.int .i64 7), .lit (.int .i64 7)], .agg [.lit (.int .i64 8), .lit (.int .i64 8), .lit (.int .i64 8), .lit (.int .i64 8), .lit (.int .i64 8)], .agg [.lit (.int .i64 8), .lit (.int .i64 8), .lit (.int .i64 8), .lit (.int .i64 8), .lit (.int .i64 8)]]
def laid_wavelet_context_signs {H : Type} : DataW H := .agg [.agg [.agg [.lit (.int .i64 13), .lit (.int .i64 1)], .agg [.lit (.int .i64 12), .lit (.int .i64 1)], .agg [.lit (.int .i64 11), .lit (.int .i64 1)]], .agg [.agg [.lit (.int .i64 10), .lit (.int .i64 1)], .agg [.lit (.int .i64 9), .lit (.int .i64 0)], .agg [.lit (.int .i64 10), .lit (.int .i64 0)]], .agg [.agg [.lit (.int .i64 11), .lit (.int .i64 0)], .agg [.lit (.int .i64 12), .lit (.int .i64 0)], .agg [.lit (.int .i64 13), .lit (.int .i64 0)]]]

/-- 'waveletlaw15.EncpassRuns': WHATEVER THE INPUT: true; the input reads as it did. -/
def encpassRunsSpec : ChangeSpec := { name := "encpassRuns", fn := fun _ => fun
  | [d1, d2, d3] => { results := [.lit (.bool true)], args := [d1, d2, d3] }
  | _ => none }
def encpassRunsRow : OpenClaim := { program := "ytbhjapgioaiocaadoor", sum := "d7c3868e5fd80a1125e571736d2268816f2545e77b7ae261548b438bf7c314cb", func := "wavelet/waveletlaw15.EncpassRuns", spec := "encpassRuns", unfollowed := true, recurses := true, named := ["wavelet/context.diagonal", "wavelet/context.straight", "wavelet/context.signs"], apart := false, laid := [("wavelet/context.straight", laid_wavelet_context_straight), ("wavelet/context.diagonal", laid_wavelet_context_diagonal), ("wavelet/context.signs", laid_wavelet_context_signs)] }
def EncpassRunsSaid : Prop := encpassRunsRow.holds Tryd.pinned (OpenSpec.ofChange encpassRunsSpec)

/-- ITS FALSE NEIGHBOUR: 'it returns false'. Refute it at one input. -/
def encpassRunsWrong : ChangeSpec := { name := "encpassRuns", fn := fun _ => fun
  | [d1, d2, d3] => { results := [.lit (.bool false)], args := [d1, d2, d3] }
  | _ => none }
def EncpassRunsWrongFalsely : Prop := encpassRunsRow.holds Tryd.pinned (OpenSpec.ofChange encpassRunsWrong)

/-- 'waveletlaw15.EncpassSymbols': WHATEVER THE INPUT: true; the input reads as it did. -/
def encpassSymbolsSpec : ChangeSpec := { name := "encpassSymbols", fn := fun _ => fun
  | [d] => { results := [.lit (.bool true)], args := [d] }
  | _ => none }
def encpassSymbolsRow : OpenClaim := { program := "ytbhjapgioaiocaadoor", sum := "d7c3868e5fd80a1125e571736d2268816f2545e77b7ae261548b438bf7c314cb", func := "wavelet/waveletlaw15.EncpassSymbols", spec := "encpassSymbols", unfollowed := true, recurses := true, named := ["wavelet/context.diagonal", "wavelet/context.straight", "wavelet/context.signs"], apart := false, laid := [("wavelet/context.straight", laid_wavelet_context_straight), ("wavelet/context.diagonal", laid_wavelet_context_diagonal), ("wavelet/context.signs", laid_wavelet_context_signs)] }
def EncpassSymbolsSaid : Prop := encpassSymbolsRow.holds Tryd.pinned (OpenSpec.ofChange encpassSymbolsSpec)

/-- ITS FALSE NEIGHBOUR: 'it returns false'. Refute it at one input. -/
def encpassSymbolsWrong : ChangeSpec := { name := "encpassSymbols", fn := fun _ => fun
  | [d] => { results := [.lit (.bool false)], args := [d] }
  | _ => none }
def EncpassSymbolsWrongFalsely : Prop := encpassSymbolsRow.holds Tryd.pinned (OpenSpec.ofChange encpassSymbolsWrong)

/-- 'waveletlaw15.EncpassPlanes': WHATEVER THE INPUT: true; the input reads as it did. -/
def encpassPlanesSpec : ChangeSpec := { name := "encpassPlanes", fn := fun _ => fun
  | [d] => { results := [.lit (.bool true)], args := [d] }
  | _ => none }
def encpassPlanesRow : OpenClaim := { program := "ytbhjapgioaiocaadoor", sum := "d7c3868e5fd80a1125e571736d2268816f2545e77b7ae261548b438bf7c314cb", func := "wavelet/waveletlaw15.EncpassPlanes", spec := "encpassPlanes", unfollowed := true, recurses := true, named := ["wavelet/context.diagonal", "wavelet/context.straight", "wavelet/context.signs"], apart := false, laid := [("wavelet/context.straight", laid_wavelet_context_straight), ("wavelet/context.diagonal", laid_wavelet_context_diagonal), ("wavelet/context.signs", laid_wavelet_context_signs)] }
def EncpassPlanesSaid : Prop := encpassPlanesRow.holds Tryd.pinned (OpenSpec.ofChange encpassPlanesSpec)

/-- ITS FALSE NEIGHBOUR: 'it returns false'. Refute it at one input. -/
def encpassPlanesWrong : ChangeSpec := { name := "encpassPlanes", fn := fun _ => fun
  | [d] => { results := [.lit (.bool false)], args := [d] }
  | _ => none }
def EncpassPlanesWrongFalsely : Prop := encpassPlanesRow.holds Tryd.pinned (OpenSpec.ofChange encpassPlanesWrong)

/-- 'waveletlaw15.EncpassShape': WHATEVER THE INPUT: true; the input reads as it did. -/
def encpassShapeSpec : ChangeSpec := { name := "encpassShape", fn := fun _ => fun
  | [d] => { results := [.lit (.bool true)], args := [d] }
  | _ => none }
def encpassShapeRow : OpenClaim := { program := "ytbhjapgioaiocaadoor", sum := "d7c3868e5fd80a1125e571736d2268816f2545e77b7ae261548b438bf7c314cb", func := "wavelet/waveletlaw15.EncpassShape", spec := "encpassShape", unfollowed := true, recurses := true, named := ["wavelet/context.diagonal", "wavelet/context.straight", "wavelet/context.signs"], apart := false, laid := [("wavelet/context.straight", laid_wavelet_context_straight), ("wavelet/context.diagonal", laid_wavelet_context_diagonal), ("wavelet/context.signs", laid_wavelet_context_signs)] }
def EncpassShapeSaid : Prop := encpassShapeRow.holds Tryd.pinned (OpenSpec.ofChange encpassShapeSpec)

/-- ITS FALSE NEIGHBOUR: 'it returns false'. Refute it at one input. -/
def encpassShapeWrong : ChangeSpec := { name := "encpassShape", fn := fun _ => fun
  | [d] => { results := [.lit (.bool false)], args := [d] }
  | _ => none }
def EncpassShapeWrongFalsely : Prop := encpassShapeRow.holds Tryd.pinned (OpenSpec.ofChange encpassShapeWrong)

/-- 'waveletlaw15.EncpassPrefix': WHATEVER THE INPUT: true; the input reads as it did. -/
def encpassPrefixSpec : ChangeSpec := { name := "encpassPrefix", fn := fun _ => fun
  | [d1, d2] => { results := [.lit (.bool true)], args := [d1, d2] }
  | _ => none }
def encpassPrefixRow : OpenClaim := { program := "ytbhjapgioaiocaadoor", sum := "d7c3868e5fd80a1125e571736d2268816f2545e77b7ae261548b438bf7c314cb", func := "wavelet/waveletlaw15.EncpassPrefix", spec := "encpassPrefix", unfollowed := true, recurses := true, named := ["wavelet/context.diagonal", "wavelet/context.straight", "wavelet/context.signs"], apart := false, laid := [("wavelet/context.straight", laid_wavelet_context_straight), ("wavelet/context.diagonal", laid_wavelet_context_diagonal), ("wavelet/context.signs", laid_wavelet_context_signs)] }
def EncpassPrefixSaid : Prop := encpassPrefixRow.holds Tryd.pinned (OpenSpec.ofChange encpassPrefixSpec)

/-- ITS FALSE NEIGHBOUR: 'it returns false'. Refute it at one input. -/
def encpassPrefixWrong : ChangeSpec := { name := "encpassPrefix", fn := fun _ => fun
  | [d1, d2] => { results := [.lit (.bool false)], args := [d1, d2] }
  | _ => none }
def EncpassPrefixWrongFalsely : Prop := encpassPrefixRow.holds Tryd.pinned (OpenSpec.ofChange encpassPrefixWrong)

/-- 'waveletlaw15.EncpassCovers': WHATEVER THE INPUT: true; the input reads as it did. -/
def encpassCoversSpec : ChangeSpec := { name := "encpassCovers", fn := fun _ => fun
  | [d] => { results := [.lit (.bool true)], args := [d] }
  | _ => none }
def encpassCoversRow : OpenClaim := { program := "ytbhjapgioaiocaadoor", sum := "d7c3868e5fd80a1125e571736d2268816f2545e77b7ae261548b438bf7c314cb", func := "wavelet/waveletlaw15.EncpassCovers", spec := "encpassCovers", unfollowed := true, recurses := true, named := ["wavelet/context.diagonal", "wavelet/context.straight", "wavelet/context.signs"], apart := false, laid := [("wavelet/context.straight", laid_wavelet_context_straight), ("wavelet/context.diagonal", laid_wavelet_context_diagonal), ("wavelet/context.signs", laid_wavelet_context_signs)] }
def EncpassCoversSaid : Prop := encpassCoversRow.holds Tryd.pinned (OpenSpec.ofChange encpassCoversSpec)

/-- ITS FALSE NEIGHBOUR: 'it returns false'. Refute it at one input. -/
def encpassCoversWrong : ChangeSpec := { name := "encpassCovers", fn := fun _ => fun
  | [d] => { results := [.lit (.bool false)], args := [d] }
  | _ => none }
def EncpassCoversWrongFalsely : Prop := encpassCoversRow.holds Tryd.pinned (OpenSpec.ofChange encpassCoversWrong)

/-- 'waveletlaw15.EncpassNobody': WHATEVER THE INPUT: true; the input reads as it did. -/
def encpassNobodySpec : ChangeSpec := { name := "encpassNobody", fn := fun _ => fun
  | [d1, d2, d3, d4] => { results := [.lit (.bool true)], args := [d1, d2, d3, d4] }
  | _ => none }
def encpassNobodyRow : OpenClaim := { program := "ytbhjapgioaiocaadoor", sum := "d7c3868e5fd80a1125e571736d2268816f2545e77b7ae261548b438bf7c314cb", func := "wavelet/waveletlaw15.EncpassNobody", spec := "encpassNobody", unfollowed := true, recurses := true, named := ["wavelet/context.diagonal", "wavelet/context.straight", "wavelet/context.signs"], apart := false, laid := [("wavelet/context.straight", laid_wavelet_context_straight), ("wavelet/context.diagonal", laid_wavelet_context_diagonal), ("wavelet/context.signs", laid_wavelet_context_signs)] }
def EncpassNobodySaid : Prop := encpassNobodyRow.holds Tryd.pinned (OpenSpec.ofChange encpassNobodySpec)

/-- ITS FALSE NEIGHBOUR: 'it returns false'. Refute it at one input. -/
def encpassNobodyWrong : ChangeSpec := { name := "encpassNobody", fn := fun _ => fun
  | [d1, d2, d3, d4] => { results := [.lit (.bool false)], args := [d1, d2, d3, d4] }
  | _ => none }
def EncpassNobodyWrongFalsely : Prop := encpassNobodyRow.holds Tryd.pinned (OpenSpec.ofChange encpassNobodyWrong)

/-- 'waveletlaw16.DecpassValues': WHATEVER THE INPUT: true; the input reads as it did. -/
def decpassValuesSpec : ChangeSpec := { name := "decpassValues", fn := fun _ => fun
  | [d] => { results := [.lit (.bool true)], args := [d] }
  | _ => none }
def decpassValuesRow : OpenClaim := { program := "ytbhjapgioaiocaadoor", sum := "d7c3868e5fd80a1125e571736d2268816f2545e77b7ae261548b438bf7c314cb", func := "wavelet/waveletlaw16.DecpassValues", spec := "decpassValues", unfollowed := true, recurses := true, named := ["wavelet/context.diagonal", "wavelet/context.straight", "wavelet/context.signs"], apart := false, laid := [("wavelet/context.straight", laid_wavelet_context_straight), ("wavelet/context.diagonal", laid_wavelet_context_diagonal), ("wavelet/context.signs", laid_wavelet_context_signs)] }
def DecpassValuesSaid : Prop := decpassValuesRow.holds Tryd.pinned (OpenSpec.ofChange decpassValuesSpec)

/-- ITS FALSE NEIGHBOUR: 'it returns false'. Refute it at one input. -/
def decpassValuesWrong : ChangeSpec := { name := "decpassValues", fn := fun _ => fun
  | [d] => { results := [.lit (.bool false)], args := [d] }
  | _ => none }
def DecpassValuesWrongFalsely : Prop := decpassValuesRow.holds Tryd.pinned (OpenSpec.ofChange decpassValuesWrong)

/-- 'waveletlaw16.DecpassReturns': WHATEVER THE INPUT: true; the input reads as it did. -/
def decpassReturnsSpec : ChangeSpec := { name := "decpassReturns", fn := fun _ => fun
  | [d] => { results := [.lit (.bool true)], args := [d] }
  | _ => none }
def decpassReturnsRow : OpenClaim := { program := "ytbhjapgioaiocaadoor", sum := "d7c3868e5fd80a1125e571736d2268816f2545e77b7ae261548b438bf7c314cb", func := "wavelet/waveletlaw16.DecpassReturns", spec := "decpassReturns", unfollowed := true, recurses := true, named := ["wavelet/context.diagonal", "wavelet/context.straight", "wavelet/context.signs"], apart := false, laid := [("wavelet/context.straight", laid_wavelet_context_straight), ("wavelet/context.diagonal", laid_wavelet_context_diagonal), ("wavelet/context.signs", laid_wavelet_context_signs)] }
def DecpassReturnsSaid : Prop := decpassReturnsRow.holds Tryd.pinned (OpenSpec.ofChange decpassReturnsSpec)

/-- ITS FALSE NEIGHBOUR: 'it returns false'. Refute it at one input. -/
def decpassReturnsWrong : ChangeSpec := { name := "decpassReturns", fn := fun _ => fun
  | [d] => { results := [.lit (.bool false)], args := [d] }
  | _ => none }
def DecpassReturnsWrongFalsely : Prop := decpassReturnsRow.holds Tryd.pinned (OpenSpec.ofChange decpassReturnsWrong)

/-- 'waveletlaw16.DecpassPrefix': WHATEVER THE INPUT: true; the input reads as it did. -/
def decpassPrefixSpec : ChangeSpec := { name := "decpassPrefix", fn := fun _ => fun
  | [d1, d2] => { results := [.lit (.bool true)], args := [d1, d2] }
  | _ => none }
def decpassPrefixRow : OpenClaim := { program := "ytbhjapgioaiocaadoor", sum := "d7c3868e5fd80a1125e571736d2268816f2545e77b7ae261548b438bf7c314cb", func := "wavelet/waveletlaw16.DecpassPrefix", spec := "decpassPrefix", unfollowed := true, recurses := true, named := ["wavelet/context.diagonal", "wavelet/context.straight", "wavelet/context.signs"], apart := false, laid := [("wavelet/context.straight", laid_wavelet_context_straight), ("wavelet/context.diagonal", laid_wavelet_context_diagonal), ("wavelet/context.signs", laid_wavelet_context_signs)] }
def DecpassPrefixSaid : Prop := decpassPrefixRow.holds Tryd.pinned (OpenSpec.ofChange decpassPrefixSpec)

/-- ITS FALSE NEIGHBOUR: 'it returns false'. Refute it at one input. -/
def decpassPrefixWrong : ChangeSpec := { name := "decpassPrefix", fn := fun _ => fun
  | [d1, d2] => { results := [.lit (.bool false)], args := [d1, d2] }
  | _ => none }
def DecpassPrefixWrongFalsely : Prop := decpassPrefixRow.holds Tryd.pinned (OpenSpec.ofChange decpassPrefixWrong)

/-- 'waveletlaw16.DecpassRejects': WHATEVER THE INPUT: true; the input reads as it did. -/
def decpassRejectsSpec : ChangeSpec := { name := "decpassRejects", fn := fun _ => fun
  | [d1, d2, d3, d4] => { results := [.lit (.bool true)], args := [d1, d2, d3, d4] }
  | _ => none }
def decpassRejectsRow : OpenClaim := { program := "ytbhjapgioaiocaadoor", sum := "d7c3868e5fd80a1125e571736d2268816f2545e77b7ae261548b438bf7c314cb", func := "wavelet/waveletlaw16.DecpassRejects", spec := "decpassRejects", unfollowed := true, recurses := true, named := ["wavelet/context.diagonal", "wavelet/context.straight", "wavelet/context.signs"], apart := false, laid := [("wavelet/context.straight", laid_wavelet_context_straight), ("wavelet/context.diagonal", laid_wavelet_context_diagonal), ("wavelet/context.signs", laid_wavelet_context_signs)] }
def DecpassRejectsSaid : Prop := decpassRejectsRow.holds Tryd.pinned (OpenSpec.ofChange decpassRejectsSpec)

/-- ITS FALSE NEIGHBOUR: 'it returns false'. Refute it at one input. -/
def decpassRejectsWrong : ChangeSpec := { name := "decpassRejects", fn := fun _ => fun
  | [d1, d2, d3, d4] => { results := [.lit (.bool false)], args := [d1, d2, d3, d4] }
  | _ => none }
def DecpassRejectsWrongFalsely : Prop := decpassRejectsRow.holds Tryd.pinned (OpenSpec.ofChange decpassRejectsWrong)

/-- 'waveletlaw16.DecpassNobody': WHATEVER THE INPUT: true; the input reads as it did. -/
def decpassNobodySpec : ChangeSpec := { name := "decpassNobody", fn := fun _ => fun
  | [d1, d2, d3, d4] => { results := [.lit (.bool true)], args := [d1, d2, d3, d4] }
  | _ => none }
def decpassNobodyRow : OpenClaim := { program := "ytbhjapgioaiocaadoor", sum := "d7c3868e5fd80a1125e571736d2268816f2545e77b7ae261548b438bf7c314cb", func := "wavelet/waveletlaw16.DecpassNobody", spec := "decpassNobody", unfollowed := true, recurses := true, named := ["wavelet/context.diagonal", "wavelet/context.straight", "wavelet/context.signs"], apart := false, laid := [("wavelet/context.straight", laid_wavelet_context_straight), ("wavelet/context.diagonal", laid_wavelet_context_diagonal), ("wavelet/context.signs", laid_wavelet_context_signs)] }
def DecpassNobodySaid : Prop := decpassNobodyRow.holds Tryd.pinned (OpenSpec.ofChange decpassNobodySpec)

/-- ITS FALSE NEIGHBOUR: 'it returns false'. Refute it at one input. -/
def decpassNobodyWrong : ChangeSpec := { name := "decpassNobody", fn := fun _ => fun
  | [d1, d2, d3, d4] => { results := [.lit (.bool false)], args := [d1, d2, d3, d4] }
  | _ => none }
def DecpassNobodyWrongFalsely : Prop := decpassNobodyRow.holds Tryd.pinned (OpenSpec.ofChange decpassNobodyWrong)

/- THE SECOND FORM. 'bulk': how many values and letters a reading holds, each counted each time it is reached (what is shared counts as often as it is met; a slice's spare places count too). A statement '..UptoSaid' is the law's where the arguments, and the package variables that the reading takes, are together of bulk at most 1048576: NARROWER than '..Said'. Prove '..Said' where nothing that the law and all that it calls make is longer than what came in: it says more and counts as full. Else prove '..UptoSaid'. A law counts once. -/
mutual
def uptoBulk {H : Type} : DataW H → Nat
  | .lit (.string bytes) => bytes.length + 1
  | .lit _ => 1
  | .nil => 1
  | .ptr d => uptoBulk d + 1
  | .slice elems spare => uptoBulkAll elems + uptoBulkAll spare + 1
  | .agg parts => uptoBulkAll parts + 1
  | .iface _ d => uptoBulk d + 1
  | .map entries => uptoBulkEntries entries + 1
  | .held _ => 1
def uptoBulkAll {H : Type} : List (DataW H) → Nat
  | [] => 0
  | d :: r => uptoBulk d + uptoBulkAll r
def uptoBulkEntries {H : Type} : List (Lit × DataW H) → Nat
  | [] => 0
  | x :: r => uptoBulkEntry x + uptoBulkEntries r
def uptoBulkEntry {H : Type} : Lit × DataW H → Nat
  | (.string bytes, d) => bytes.length + uptoBulk d + 1
  | (_, d) => uptoBulk d + 1
 end
def uptoSmall : (H : Type) → List (DataW H) → Bool := fun _ ds => decide (uptoBulkAll ds ≤ 1048576)
def OpenSpec.upto (s : _root_.Go.ChangeSpec) : _root_.Go.OpenSpec := { _root_.Go.OpenSpec.ofChange s with cond := some uptoSmall }

/-- 'waveletlaw15.EncpassRuns', WHERE WHAT IT READS IS OF BULK AT MOST 1048576: true; the input reads as it did. -/
def encpassRunsUptoRow : OpenClaim := { program := "ytbhjapgioaiocaadoor", sum := "d7c3868e5fd80a1125e571736d2268816f2545e77b7ae261548b438bf7c314cb", func := "wavelet/waveletlaw15.EncpassRuns", spec := "encpassRuns", unfollowed := true, recurses := true, named := ["wavelet/context.diagonal", "wavelet/context.straight", "wavelet/context.signs"], apart := false, laid := [("wavelet/context.straight", laid_wavelet_context_straight), ("wavelet/context.diagonal", laid_wavelet_context_diagonal), ("wavelet/context.signs", laid_wavelet_context_signs)], narrowed := true }
def EncpassRunsUptoSaid : Prop := encpassRunsUptoRow.holds Tryd.pinned (OpenSpec.upto encpassRunsSpec)

/-- 'waveletlaw15.EncpassSymbols', WHERE WHAT IT READS IS OF BULK AT MOST 1048576: true; the input reads as it did. -/
def encpassSymbolsUptoRow : OpenClaim := { program := "ytbhjapgioaiocaadoor", sum := "d7c3868e5fd80a1125e571736d2268816f2545e77b7ae261548b438bf7c314cb", func := "wavelet/waveletlaw15.EncpassSymbols", spec := "encpassSymbols", unfollowed := true, recurses := true, named := ["wavelet/context.diagonal", "wavelet/context.straight", "wavelet/context.signs"], apart := false, laid := [("wavelet/context.straight", laid_wavelet_context_straight), ("wavelet/context.diagonal", laid_wavelet_context_diagonal), ("wavelet/context.signs", laid_wavelet_context_signs)], narrowed := true }
def EncpassSymbolsUptoSaid : Prop := encpassSymbolsUptoRow.holds Tryd.pinned (OpenSpec.upto encpassSymbolsSpec)

/-- 'waveletlaw15.EncpassPlanes', WHERE WHAT IT READS IS OF BULK AT MOST 1048576: true; the input reads as it did. -/
def encpassPlanesUptoRow : OpenClaim := { program := "ytbhjapgioaiocaadoor", sum := "d7c3868e5fd80a1125e571736d2268816f2545e77b7ae261548b438bf7c314cb", func := "wavelet/waveletlaw15.EncpassPlanes", spec := "encpassPlanes", unfollowed := true, recurses := true, named := ["wavelet/context.diagonal", "wavelet/context.straight", "wavelet/context.signs"], apart := false, laid := [("wavelet/context.straight", laid_wavelet_context_straight), ("wavelet/context.diagonal", laid_wavelet_context_diagonal), ("wavelet/context.signs", laid_wavelet_context_signs)], narrowed := true }
def EncpassPlanesUptoSaid : Prop := encpassPlanesUptoRow.holds Tryd.pinned (OpenSpec.upto encpassPlanesSpec)

/-- 'waveletlaw15.EncpassShape', WHERE WHAT IT READS IS OF BULK AT MOST 1048576: true; the input reads as it did. -/
def encpassShapeUptoRow : OpenClaim := { program := "ytbhjapgioaiocaadoor", sum := "d7c3868e5fd80a1125e571736d2268816f2545e77b7ae261548b438bf7c314cb", func := "wavelet/waveletlaw15.EncpassShape", spec := "encpassShape", unfollowed := true, recurses := true, named := ["wavelet/context.diagonal", "wavelet/context.straight", "wavelet/context.signs"], apart := false, laid := [("wavelet/context.straight", laid_wavelet_context_straight), ("wavelet/context.diagonal", laid_wavelet_context_diagonal), ("wavelet/context.signs", laid_wavelet_context_signs)], narrowed := true }
def EncpassShapeUptoSaid : Prop := encpassShapeUptoRow.holds Tryd.pinned (OpenSpec.upto encpassShapeSpec)

/-- 'waveletlaw15.EncpassPrefix', WHERE WHAT IT READS IS OF BULK AT MOST 1048576: true; the input reads as it did. -/
def encpassPrefixUptoRow : OpenClaim := { program := "ytbhjapgioaiocaadoor", sum := "d7c3868e5fd80a1125e571736d2268816f2545e77b7ae261548b438bf7c314cb", func := "wavelet/waveletlaw15.EncpassPrefix", spec := "encpassPrefix", unfollowed := true, recurses := true, named := ["wavelet/context.diagonal", "wavelet/context.straight", "wavelet/context.signs"], apart := false, laid := [("wavelet/context.straight", laid_wavelet_context_straight), ("wavelet/context.diagonal", laid_wavelet_context_diagonal), ("wavelet/context.signs", laid_wavelet_context_signs)], narrowed := true }
def EncpassPrefixUptoSaid : Prop := encpassPrefixUptoRow.holds Tryd.pinned (OpenSpec.upto encpassPrefixSpec)

/-- 'waveletlaw15.EncpassCovers', WHERE WHAT IT READS IS OF BULK AT MOST 1048576: true; the input reads as it did. -/
def encpassCoversUptoRow : OpenClaim := { program := "ytbhjapgioaiocaadoor", sum := "d7c3868e5fd80a1125e571736d2268816f2545e77b7ae261548b438bf7c314cb", func := "wavelet/waveletlaw15.EncpassCovers", spec := "encpassCovers", unfollowed := true, recurses := true, named := ["wavelet/context.diagonal", "wavelet/context.straight", "wavelet/context.signs"], apart := false, laid := [("wavelet/context.straight", laid_wavelet_context_straight), ("wavelet/context.diagonal", laid_wavelet_context_diagonal), ("wavelet/context.signs", laid_wavelet_context_signs)], narrowed := true }
def EncpassCoversUptoSaid : Prop := encpassCoversUptoRow.holds Tryd.pinned (OpenSpec.upto encpassCoversSpec)

/-- 'waveletlaw15.EncpassNobody', WHERE WHAT IT READS IS OF BULK AT MOST 1048576: true; the input reads as it did. -/
def encpassNobodyUptoRow : OpenClaim := { program := "ytbhjapgioaiocaadoor", sum := "d7c3868e5fd80a1125e571736d2268816f2545e77b7ae261548b438bf7c314cb", func := "wavelet/waveletlaw15.EncpassNobody", spec := "encpassNobody", unfollowed := true, recurses := true, named := ["wavelet/context.diagonal", "wavelet/context.straight", "wavelet/context.signs"], apart := false, laid := [("wavelet/context.straight", laid_wavelet_context_straight), ("wavelet/context.diagonal", laid_wavelet_context_diagonal), ("wavelet/context.signs", laid_wavelet_context_signs)], narrowed := true }
def EncpassNobodyUptoSaid : Prop := encpassNobodyUptoRow.holds Tryd.pinned (OpenSpec.upto encpassNobodySpec)

/-- 'waveletlaw16.DecpassValues', WHERE WHAT IT READS IS OF BULK AT MOST 1048576: true; the input reads as it did. -/
def decpassValuesUptoRow : OpenClaim := { program := "ytbhjapgioaiocaadoor", sum := "d7c3868e5fd80a1125e571736d2268816f2545e77b7ae261548b438bf7c314cb", func := "wavelet/waveletlaw16.DecpassValues", spec := "decpassValues", unfollowed := true, recurses := true, named := ["wavelet/context.diagonal", "wavelet/context.straight", "wavelet/context.signs"], apart := false, laid := [("wavelet/context.straight", laid_wavelet_context_straight), ("wavelet/context.diagonal", laid_wavelet_context_diagonal), ("wavelet/context.signs", laid_wavelet_context_signs)], narrowed := true }
def DecpassValuesUptoSaid : Prop := decpassValuesUptoRow.holds Tryd.pinned (OpenSpec.upto decpassValuesSpec)

/-- 'waveletlaw16.DecpassReturns', WHERE WHAT IT READS IS OF BULK AT MOST 1048576: true; the input reads as it did. -/
def decpassReturnsUptoRow : OpenClaim := { program := "ytbhjapgioaiocaadoor", sum := "d7c3868e5fd80a1125e571736d2268816f2545e77b7ae261548b438bf7c314cb", func := "wavelet/waveletlaw16.DecpassReturns", spec := "decpassReturns", unfollowed := true, recurses := true, named := ["wavelet/context.diagonal", "wavelet/context.straight", "wavelet/context.signs"], apart := false, laid := [("wavelet/context.straight", laid_wavelet_context_straight), ("wavelet/context.diagonal", laid_wavelet_context_diagonal), ("wavelet/context.signs", laid_wavelet_context_signs)], narrowed := true }
def DecpassReturnsUptoSaid : Prop := decpassReturnsUptoRow.holds Tryd.pinned (OpenSpec.upto decpassReturnsSpec)

/-- 'waveletlaw16.DecpassPrefix', WHERE WHAT IT READS IS OF BULK AT MOST 1048576: true; the input reads as it did. -/
def decpassPrefixUptoRow : OpenClaim := { program := "ytbhjapgioaiocaadoor", sum := "d7c3868e5fd80a1125e571736d2268816f2545e77b7ae261548b438bf7c314cb", func := "wavelet/waveletlaw16.DecpassPrefix", spec := "decpassPrefix", unfollowed := true, recurses := true, named := ["wavelet/context.diagonal", "wavelet/context.straight", "wavelet/context.signs"], apart := false, laid := [("wavelet/context.straight", laid_wavelet_context_straight), ("wavelet/context.diagonal", laid_wavelet_context_diagonal), ("wavelet/context.signs", laid_wavelet_context_signs)], narrowed := true }
def DecpassPrefixUptoSaid : Prop := decpassPrefixUptoRow.holds Tryd.pinned (OpenSpec.upto decpassPrefixSpec)

/-- 'waveletlaw16.DecpassRejects', WHERE WHAT IT READS IS OF BULK AT MOST 1048576: true; the input reads as it did. -/
def decpassRejectsUptoRow : OpenClaim := { program := "ytbhjapgioaiocaadoor", sum := "d7c3868e5fd80a1125e571736d2268816f2545e77b7ae261548b438bf7c314cb", func := "wavelet/waveletlaw16.DecpassRejects", spec := "decpassRejects", unfollowed := true, recurses := true, named := ["wavelet/context.diagonal", "wavelet/context.straight", "wavelet/context.signs"], apart := false, laid := [("wavelet/context.straight", laid_wavelet_context_straight), ("wavelet/context.diagonal", laid_wavelet_context_diagonal), ("wavelet/context.signs", laid_wavelet_context_signs)], narrowed := true }
def DecpassRejectsUptoSaid : Prop := decpassRejectsUptoRow.holds Tryd.pinned (OpenSpec.upto decpassRejectsSpec)

/-- 'waveletlaw16.DecpassNobody', WHERE WHAT IT READS IS OF BULK AT MOST 1048576: true; the input reads as it did. -/
def decpassNobodyUptoRow : OpenClaim := { program := "ytbhjapgioaiocaadoor", sum := "d7c3868e5fd80a1125e571736d2268816f2545e77b7ae261548b438bf7c314cb", func := "wavelet/waveletlaw16.DecpassNobody", spec := "decpassNobody", unfollowed := true, recurses := true, named := ["wavelet/context.diagonal", "wavelet/context.straight", "wavelet/context.signs"], apart := false, laid := [("wavelet/context.straight", laid_wavelet_context_straight), ("wavelet/context.diagonal", laid_wavelet_context_diagonal), ("wavelet/context.signs", laid_wavelet_context_signs)], narrowed := true }
def DecpassNobodyUptoSaid : Prop := decpassNobodyUptoRow.holds Tryd.pinned (OpenSpec.upto decpassNobodySpec)

end Rows
end Go.Proofs.YtbhjapgioaiocaaDoor
