/-
  NARROWER THAN 'FOR EVERY INPUT', by the rows' own cells (each row's printed sentence says how): ArithAdapts: laid · ArithEncodes: laid · ArithDecodes: laid · ArithRestores: laid · ArithPrefixes: laid · ArithShortest: laid · ArithResets: laid · ArithNone: laid · RawbitsWrites: laid · RawbitsReads: laid · RawbitsRestores: laid · RawbitsNone: laid.
  DERIVED. THE GIVEN ROWS OF THIS SEAT. 12 by the template 'for every input the law returns true; each argument reads behind the call as it read before'; 0 by the template 'total and deterministic' (their statements: YtbaappodeicomaaDoorTotals.lean).
  GIVEN WITH THE SEED: the statements are not yours to turn. If you find one false, say at which input.
  Laid BY PROGRAM, IN A SANDBOX (cutbox-rows.mjs): the forced cells as the released guide's own fill.sh prints them over the translation 0dffae719fe172b5… (all of the seat's roots in one cut). By AI agents, Wed Nov 11 2026. No macro, syntax, notation, axiom, sorry.
-/
import Derived.Test.YtbaappodeicomaaDoorChecked
import GoSem.PinnedTables
import GoSem.Claim
import GoSem.ClaimJoined
import GoSem.ClaimMapViews
import Derived.JoinedTies
import Derived.KernelRfl
namespace Go.Proofs.YtbaappodeicomaaDoor
/- THE CELL 'sum', in the pinned program and in every row, IS THE sha256 OF THE DUMP (.gsa) THAT YtbaappodeicomaaDoorProg.lean LOADS. Nothing in Lean hashes anything: it is a label: what it is worth is what the hold of that sum in a sandbox is worth. -/
noncomputable def Tryd.pinned : Pinned := { name := "ytbaappodeicomaadoor", sum := "0dffae719fe172b521042e7e8e991846c52a44e5838d1ddbafd2e9f3a63b3848", checked := Tryd.checked }
namespace Rows
def none {H : Type} : Left H := { results := [], args := [] }

/- WHAT THE LISTED PACKAGE-LEVEL VARIABLES READ AS WHEN THE CALL BEGINS. Each datum BY PROGRAM (the guide's laid-datum.mjs) off the statement by which the dump's own 'gosem.cut.vars' lays the variable. In a bare row this is a premise. The card (YtbaappodeicomaaDoorCards.lean) ties it to the program's text. -/
def laid_unicode_utf8_acceptRanges {H : Type} : DataW H := .agg [.agg [.lit (.int .u8 128), .lit (.int .u8 191)], .agg [.lit (.int .u8 160), .lit (.int .u8 191)], .agg [.lit (.int .u8 128), .lit (.int .u8 159)], .agg [.lit (.int .u8 144), .lit (.int .u8 191)], .agg [.lit (.int .u8 128), .lit (.int .u8 143)], .agg [.lit (.int .u8 0), .lit (.int .u8 0)], .agg [.lit (.int .u8 0), .lit (.int .u8 0)], .agg [.lit (.int .u8 0), .lit (.int .u8 0)], .agg [.lit (.int .u8 0), .lit (.int .u8 0)], .agg [.lit (.int .u8 0), .lit (.int .u8 0)], .agg [.lit (.int .u8 0), .lit (.int .u8 0)], .agg [.lit (.int .u8 0), .lit (.int .u8 0)], .agg [.lit (.int .u8 0), .lit (.int .u8 0)], .agg [.lit (.int .u8 0), .lit (.int .u8 0)], .agg [.lit (.int .u8 0), .lit (.int .u8 0)], .agg [.lit (.int .u8 0), .lit (.int .u8 0)]]
/-- One of Go's own tables, pinned by name: the form's constant. -/
def laid_unicode_utf8_first : DataW Unit := Go.Pinned.utf8First

/-- 'waveletlaw11.ArithAdapts': WHATEVER THE INPUT: true; the input reads as it did. -/
def arithAdaptsSpec : ChangeSpec := { name := "arithAdapts", fn := fun _ => fun
  | [d1, d2] => { results := [.lit (.bool true)], args := [d1, d2] }
  | _ => none }
def arithAdaptsRow : OpenClaim := { program := "ytbaappodeicomaadoor", sum := "0dffae719fe172b521042e7e8e991846c52a44e5838d1ddbafd2e9f3a63b3848", func := "wavelet/waveletlaw11.ArithAdapts", spec := "arithAdapts", named := ["unicode/utf8.first", "unicode/utf8.acceptRanges"], apart := false, laid := [("unicode/utf8.acceptRanges", laid_unicode_utf8_acceptRanges), ("unicode/utf8.first", laid_unicode_utf8_first)] }
def ArithAdaptsSaid : Prop := arithAdaptsRow.holds Tryd.pinned (OpenSpec.ofChange arithAdaptsSpec)

/-- ITS FALSE NEIGHBOUR: 'it returns false'. Refute it at one input. -/
def arithAdaptsWrong : ChangeSpec := { name := "arithAdapts", fn := fun _ => fun
  | [d1, d2] => { results := [.lit (.bool false)], args := [d1, d2] }
  | _ => none }
def ArithAdaptsWrongFalsely : Prop := arithAdaptsRow.holds Tryd.pinned (OpenSpec.ofChange arithAdaptsWrong)

/-- 'waveletlaw11.ArithEncodes': WHATEVER THE INPUT: true; the input reads as it did. -/
def arithEncodesSpec : ChangeSpec := { name := "arithEncodes", fn := fun _ => fun
  | [d1, d2] => { results := [.lit (.bool true)], args := [d1, d2] }
  | _ => none }
def arithEncodesRow : OpenClaim := { program := "ytbaappodeicomaadoor", sum := "0dffae719fe172b521042e7e8e991846c52a44e5838d1ddbafd2e9f3a63b3848", func := "wavelet/waveletlaw11.ArithEncodes", spec := "arithEncodes", named := ["unicode/utf8.first", "unicode/utf8.acceptRanges"], apart := false, laid := [("unicode/utf8.acceptRanges", laid_unicode_utf8_acceptRanges), ("unicode/utf8.first", laid_unicode_utf8_first)] }
def ArithEncodesSaid : Prop := arithEncodesRow.holds Tryd.pinned (OpenSpec.ofChange arithEncodesSpec)

/-- ITS FALSE NEIGHBOUR: 'it returns false'. Refute it at one input. -/
def arithEncodesWrong : ChangeSpec := { name := "arithEncodes", fn := fun _ => fun
  | [d1, d2] => { results := [.lit (.bool false)], args := [d1, d2] }
  | _ => none }
def ArithEncodesWrongFalsely : Prop := arithEncodesRow.holds Tryd.pinned (OpenSpec.ofChange arithEncodesWrong)

/-- 'waveletlaw11.ArithDecodes': WHATEVER THE INPUT: true; the input reads as it did. -/
def arithDecodesSpec : ChangeSpec := { name := "arithDecodes", fn := fun _ => fun
  | [d1, d2] => { results := [.lit (.bool true)], args := [d1, d2] }
  | _ => none }
def arithDecodesRow : OpenClaim := { program := "ytbaappodeicomaadoor", sum := "0dffae719fe172b521042e7e8e991846c52a44e5838d1ddbafd2e9f3a63b3848", func := "wavelet/waveletlaw11.ArithDecodes", spec := "arithDecodes", named := ["unicode/utf8.first", "unicode/utf8.acceptRanges"], apart := false, laid := [("unicode/utf8.acceptRanges", laid_unicode_utf8_acceptRanges), ("unicode/utf8.first", laid_unicode_utf8_first)] }
def ArithDecodesSaid : Prop := arithDecodesRow.holds Tryd.pinned (OpenSpec.ofChange arithDecodesSpec)

/-- ITS FALSE NEIGHBOUR: 'it returns false'. Refute it at one input. -/
def arithDecodesWrong : ChangeSpec := { name := "arithDecodes", fn := fun _ => fun
  | [d1, d2] => { results := [.lit (.bool false)], args := [d1, d2] }
  | _ => none }
def ArithDecodesWrongFalsely : Prop := arithDecodesRow.holds Tryd.pinned (OpenSpec.ofChange arithDecodesWrong)

/-- 'waveletlaw11.ArithRestores': WHATEVER THE INPUT: true; the input reads as it did. -/
def arithRestoresSpec : ChangeSpec := { name := "arithRestores", fn := fun _ => fun
  | [d1, d2, d3] => { results := [.lit (.bool true)], args := [d1, d2, d3] }
  | _ => none }
def arithRestoresRow : OpenClaim := { program := "ytbaappodeicomaadoor", sum := "0dffae719fe172b521042e7e8e991846c52a44e5838d1ddbafd2e9f3a63b3848", func := "wavelet/waveletlaw11.ArithRestores", spec := "arithRestores", named := ["unicode/utf8.first", "unicode/utf8.acceptRanges"], apart := false, laid := [("unicode/utf8.acceptRanges", laid_unicode_utf8_acceptRanges), ("unicode/utf8.first", laid_unicode_utf8_first)] }
def ArithRestoresSaid : Prop := arithRestoresRow.holds Tryd.pinned (OpenSpec.ofChange arithRestoresSpec)

/-- ITS FALSE NEIGHBOUR: 'it returns false'. Refute it at one input. -/
def arithRestoresWrong : ChangeSpec := { name := "arithRestores", fn := fun _ => fun
  | [d1, d2, d3] => { results := [.lit (.bool false)], args := [d1, d2, d3] }
  | _ => none }
def ArithRestoresWrongFalsely : Prop := arithRestoresRow.holds Tryd.pinned (OpenSpec.ofChange arithRestoresWrong)

/-- 'waveletlaw11.ArithPrefixes': WHATEVER THE INPUT: true; the input reads as it did. -/
def arithPrefixesSpec : ChangeSpec := { name := "arithPrefixes", fn := fun _ => fun
  | [d1, d2, d3] => { results := [.lit (.bool true)], args := [d1, d2, d3] }
  | _ => none }
def arithPrefixesRow : OpenClaim := { program := "ytbaappodeicomaadoor", sum := "0dffae719fe172b521042e7e8e991846c52a44e5838d1ddbafd2e9f3a63b3848", func := "wavelet/waveletlaw11.ArithPrefixes", spec := "arithPrefixes", named := ["unicode/utf8.first", "unicode/utf8.acceptRanges"], apart := false, laid := [("unicode/utf8.acceptRanges", laid_unicode_utf8_acceptRanges), ("unicode/utf8.first", laid_unicode_utf8_first)] }
def ArithPrefixesSaid : Prop := arithPrefixesRow.holds Tryd.pinned (OpenSpec.ofChange arithPrefixesSpec)

/-- ITS FALSE NEIGHBOUR: 'it returns false'. Refute it at one input. -/
def arithPrefixesWrong : ChangeSpec := { name := "arithPrefixes", fn := fun _ => fun
  | [d1, d2, d3] => { results := [.lit (.bool false)], args := [d1, d2, d3] }
  | _ => none }
def ArithPrefixesWrongFalsely : Prop := arithPrefixesRow.holds Tryd.pinned (OpenSpec.ofChange arithPrefixesWrong)

/-- 'waveletlaw11.ArithShortest': WHATEVER THE INPUT: true; the input reads as it did. -/
def arithShortestSpec : ChangeSpec := { name := "arithShortest", fn := fun _ => fun
  | [d1, d2] => { results := [.lit (.bool true)], args := [d1, d2] }
  | _ => none }
def arithShortestRow : OpenClaim := { program := "ytbaappodeicomaadoor", sum := "0dffae719fe172b521042e7e8e991846c52a44e5838d1ddbafd2e9f3a63b3848", func := "wavelet/waveletlaw11.ArithShortest", spec := "arithShortest", named := ["unicode/utf8.first", "unicode/utf8.acceptRanges"], apart := false, laid := [("unicode/utf8.acceptRanges", laid_unicode_utf8_acceptRanges), ("unicode/utf8.first", laid_unicode_utf8_first)] }
def ArithShortestSaid : Prop := arithShortestRow.holds Tryd.pinned (OpenSpec.ofChange arithShortestSpec)

/-- ITS FALSE NEIGHBOUR: 'it returns false'. Refute it at one input. -/
def arithShortestWrong : ChangeSpec := { name := "arithShortest", fn := fun _ => fun
  | [d1, d2] => { results := [.lit (.bool false)], args := [d1, d2] }
  | _ => none }
def ArithShortestWrongFalsely : Prop := arithShortestRow.holds Tryd.pinned (OpenSpec.ofChange arithShortestWrong)

/-- 'waveletlaw11.ArithResets': WHATEVER THE INPUT: true; the input reads as it did. -/
def arithResetsSpec : ChangeSpec := { name := "arithResets", fn := fun _ => fun
  | [d1, d2, d3] => { results := [.lit (.bool true)], args := [d1, d2, d3] }
  | _ => none }
def arithResetsRow : OpenClaim := { program := "ytbaappodeicomaadoor", sum := "0dffae719fe172b521042e7e8e991846c52a44e5838d1ddbafd2e9f3a63b3848", func := "wavelet/waveletlaw11.ArithResets", spec := "arithResets", named := ["unicode/utf8.first", "unicode/utf8.acceptRanges"], apart := false, laid := [("unicode/utf8.acceptRanges", laid_unicode_utf8_acceptRanges), ("unicode/utf8.first", laid_unicode_utf8_first)] }
def ArithResetsSaid : Prop := arithResetsRow.holds Tryd.pinned (OpenSpec.ofChange arithResetsSpec)

/-- ITS FALSE NEIGHBOUR: 'it returns false'. Refute it at one input. -/
def arithResetsWrong : ChangeSpec := { name := "arithResets", fn := fun _ => fun
  | [d1, d2, d3] => { results := [.lit (.bool false)], args := [d1, d2, d3] }
  | _ => none }
def ArithResetsWrongFalsely : Prop := arithResetsRow.holds Tryd.pinned (OpenSpec.ofChange arithResetsWrong)

/-- 'waveletlaw11.ArithNone': WHATEVER THE INPUT: true; the input reads as it did. -/
def arithNoneSpec : ChangeSpec := { name := "arithNone", fn := fun _ => fun
  | [d1, d2, d3] => { results := [.lit (.bool true)], args := [d1, d2, d3] }
  | _ => none }
def arithNoneRow : OpenClaim := { program := "ytbaappodeicomaadoor", sum := "0dffae719fe172b521042e7e8e991846c52a44e5838d1ddbafd2e9f3a63b3848", func := "wavelet/waveletlaw11.ArithNone", spec := "arithNone", named := ["unicode/utf8.first", "unicode/utf8.acceptRanges"], apart := false, laid := [("unicode/utf8.acceptRanges", laid_unicode_utf8_acceptRanges), ("unicode/utf8.first", laid_unicode_utf8_first)] }
def ArithNoneSaid : Prop := arithNoneRow.holds Tryd.pinned (OpenSpec.ofChange arithNoneSpec)

/-- ITS FALSE NEIGHBOUR: 'it returns false'. Refute it at one input. -/
def arithNoneWrong : ChangeSpec := { name := "arithNone", fn := fun _ => fun
  | [d1, d2, d3] => { results := [.lit (.bool false)], args := [d1, d2, d3] }
  | _ => none }
def ArithNoneWrongFalsely : Prop := arithNoneRow.holds Tryd.pinned (OpenSpec.ofChange arithNoneWrong)

/-- 'waveletlaw12.RawbitsWrites': WHATEVER THE INPUT: true; the input reads as it did. -/
def rawbitsWritesSpec : ChangeSpec := { name := "rawbitsWrites", fn := fun _ => fun
  | [d] => { results := [.lit (.bool true)], args := [d] }
  | _ => none }
def rawbitsWritesRow : OpenClaim := { program := "ytbaappodeicomaadoor", sum := "0dffae719fe172b521042e7e8e991846c52a44e5838d1ddbafd2e9f3a63b3848", func := "wavelet/waveletlaw12.RawbitsWrites", spec := "rawbitsWrites", named := ["unicode/utf8.first", "unicode/utf8.acceptRanges"], apart := false, laid := [("unicode/utf8.acceptRanges", laid_unicode_utf8_acceptRanges), ("unicode/utf8.first", laid_unicode_utf8_first)] }
def RawbitsWritesSaid : Prop := rawbitsWritesRow.holds Tryd.pinned (OpenSpec.ofChange rawbitsWritesSpec)

/-- ITS FALSE NEIGHBOUR: 'it returns false'. Refute it at one input. -/
def rawbitsWritesWrong : ChangeSpec := { name := "rawbitsWrites", fn := fun _ => fun
  | [d] => { results := [.lit (.bool false)], args := [d] }
  | _ => none }
def RawbitsWritesWrongFalsely : Prop := rawbitsWritesRow.holds Tryd.pinned (OpenSpec.ofChange rawbitsWritesWrong)

/-- 'waveletlaw12.RawbitsReads': WHATEVER THE INPUT: true; the input reads as it did. -/
def rawbitsReadsSpec : ChangeSpec := { name := "rawbitsReads", fn := fun _ => fun
  | [d1, d2] => { results := [.lit (.bool true)], args := [d1, d2] }
  | _ => none }
def rawbitsReadsRow : OpenClaim := { program := "ytbaappodeicomaadoor", sum := "0dffae719fe172b521042e7e8e991846c52a44e5838d1ddbafd2e9f3a63b3848", func := "wavelet/waveletlaw12.RawbitsReads", spec := "rawbitsReads", named := ["unicode/utf8.first", "unicode/utf8.acceptRanges"], apart := false, laid := [("unicode/utf8.acceptRanges", laid_unicode_utf8_acceptRanges), ("unicode/utf8.first", laid_unicode_utf8_first)] }
def RawbitsReadsSaid : Prop := rawbitsReadsRow.holds Tryd.pinned (OpenSpec.ofChange rawbitsReadsSpec)

/-- ITS FALSE NEIGHBOUR: 'it returns false'. Refute it at one input. -/
def rawbitsReadsWrong : ChangeSpec := { name := "rawbitsReads", fn := fun _ => fun
  | [d1, d2] => { results := [.lit (.bool false)], args := [d1, d2] }
  | _ => none }
def RawbitsReadsWrongFalsely : Prop := rawbitsReadsRow.holds Tryd.pinned (OpenSpec.ofChange rawbitsReadsWrong)

/-- 'waveletlaw12.RawbitsRestores': WHATEVER THE INPUT: true; the input reads as it did. -/
def rawbitsRestoresSpec : ChangeSpec := { name := "rawbitsRestores", fn := fun _ => fun
  | [d1, d2, d3] => { results := [.lit (.bool true)], args := [d1, d2, d3] }
  | _ => none }
def rawbitsRestoresRow : OpenClaim := { program := "ytbaappodeicomaadoor", sum := "0dffae719fe172b521042e7e8e991846c52a44e5838d1ddbafd2e9f3a63b3848", func := "wavelet/waveletlaw12.RawbitsRestores", spec := "rawbitsRestores", named := ["unicode/utf8.first", "unicode/utf8.acceptRanges"], apart := false, laid := [("unicode/utf8.acceptRanges", laid_unicode_utf8_acceptRanges), ("unicode/utf8.first", laid_unicode_utf8_first)] }
def RawbitsRestoresSaid : Prop := rawbitsRestoresRow.holds Tryd.pinned (OpenSpec.ofChange rawbitsRestoresSpec)

/-- ITS FALSE NEIGHBOUR: 'it returns false'. Refute it at one input. -/
def rawbitsRestoresWrong : ChangeSpec := { name := "rawbitsRestores", fn := fun _ => fun
  | [d1, d2, d3] => { results := [.lit (.bool false)], args := [d1, d2, d3] }
  | _ => none }
def RawbitsRestoresWrongFalsely : Prop := rawbitsRestoresRow.holds Tryd.pinned (OpenSpec.ofChange rawbitsRestoresWrong)

/-- 'waveletlaw12.RawbitsNone': WHATEVER THE INPUT: true; the input reads as it did. -/
def rawbitsNoneSpec : ChangeSpec := { name := "rawbitsNone", fn := fun _ => fun
  | [d] => { results := [.lit (.bool true)], args := [d] }
  | _ => none }
def rawbitsNoneRow : OpenClaim := { program := "ytbaappodeicomaadoor", sum := "0dffae719fe172b521042e7e8e991846c52a44e5838d1ddbafd2e9f3a63b3848", func := "wavelet/waveletlaw12.RawbitsNone", spec := "rawbitsNone", named := ["unicode/utf8.first", "unicode/utf8.acceptRanges"], apart := false, laid := [("unicode/utf8.acceptRanges", laid_unicode_utf8_acceptRanges), ("unicode/utf8.first", laid_unicode_utf8_first)] }
def RawbitsNoneSaid : Prop := rawbitsNoneRow.holds Tryd.pinned (OpenSpec.ofChange rawbitsNoneSpec)

/-- ITS FALSE NEIGHBOUR: 'it returns false'. Refute it at one input. -/
def rawbitsNoneWrong : ChangeSpec := { name := "rawbitsNone", fn := fun _ => fun
  | [d] => { results := [.lit (.bool false)], args := [d] }
  | _ => none }
def RawbitsNoneWrongFalsely : Prop := rawbitsNoneRow.holds Tryd.pinned (OpenSpec.ofChange rawbitsNoneWrong)

/- THE SECOND FORM. 'bulk': how many values and letters a reading holds, each counted each time it is reached (what is shared counts as often as it is met; a slice's spare places count too). A statement '..UptoSaid' is the law's where the arguments, and the package variables that the reading takes, are together of bulk at most 1048576: NARROWER than '..Said'. Prove '..Said' where nothing that the law and all that it calls make is longer than what came in: it says more and counts as full. Else prove '..UptoSaid'. A law counts once. -/
mutual
def uptoBulk {H : Type} : DataW H → Nat
  | .lit (.string bytes) => bytes.length + 1
  | .lit _ => 1
  | .nil => 1
  | .ptr d => uptoBulk d + 1
  | .slice elems spare => uptoBulkAll elems + uptoBulkAll spare + 1
  | .agg parts => uptoBulkAll parts + 1
  | .iface _ d => uptoBulk d + 1
  | .map entries => uptoBulkEntries entries + 1
  | .held _ => 1
def uptoBulkAll {H : Type} : List (DataW H) → Nat
  | [] => 0
  | d :: r => uptoBulk d + uptoBulkAll r
def uptoBulkEntries {H : Type} : List (Lit × DataW H) → Nat
  | [] => 0
  | x :: r => uptoBulkEntry x + uptoBulkEntries r
def uptoBulkEntry {H : Type} : Lit × DataW H → Nat
  | (.string bytes, d) => bytes.length + uptoBulk d + 1
  | (_, d) => uptoBulk d + 1
 end
def uptoSmall : (H : Type) → List (DataW H) → Bool := fun _ ds => decide (uptoBulkAll ds ≤ 1048576)
def OpenSpec.upto (s : _root_.Go.ChangeSpec) : _root_.Go.OpenSpec := { _root_.Go.OpenSpec.ofChange s with cond := some uptoSmall }

/-- 'waveletlaw11.ArithAdapts', WHERE WHAT IT READS IS OF BULK AT MOST 1048576: true; the input reads as it did. -/
def arithAdaptsUptoRow : OpenClaim := { program := "ytbaappodeicomaadoor", sum := "0dffae719fe172b521042e7e8e991846c52a44e5838d1ddbafd2e9f3a63b3848", func := "wavelet/waveletlaw11.ArithAdapts", spec := "arithAdapts", named := ["unicode/utf8.first", "unicode/utf8.acceptRanges"], apart := false, laid := [("unicode/utf8.acceptRanges", laid_unicode_utf8_acceptRanges), ("unicode/utf8.first", laid_unicode_utf8_first)], narrowed := true }
def ArithAdaptsUptoSaid : Prop := arithAdaptsUptoRow.holds Tryd.pinned (OpenSpec.upto arithAdaptsSpec)

/-- 'waveletlaw11.ArithEncodes', WHERE WHAT IT READS IS OF BULK AT MOST 1048576: true; the input reads as it did. -/
def arithEncodesUptoRow : OpenClaim := { program := "ytbaappodeicomaadoor", sum := "0dffae719fe172b521042e7e8e991846c52a44e5838d1ddbafd2e9f3a63b3848", func := "wavelet/waveletlaw11.ArithEncodes", spec := "arithEncodes", named := ["unicode/utf8.first", "unicode/utf8.acceptRanges"], apart := false, laid := [("unicode/utf8.acceptRanges", laid_unicode_utf8_acceptRanges), ("unicode/utf8.first", laid_unicode_utf8_first)], narrowed := true }
def ArithEncodesUptoSaid : Prop := arithEncodesUptoRow.holds Tryd.pinned (OpenSpec.upto arithEncodesSpec)

/-- 'waveletlaw11.ArithDecodes', WHERE WHAT IT READS IS OF BULK AT MOST 1048576: true; the input reads as it did. -/
def arithDecodesUptoRow : OpenClaim := { program := "ytbaappodeicomaadoor", sum := "0dffae719fe172b521042e7e8e991846c52a44e5838d1ddbafd2e9f3a63b3848", func := "wavelet/waveletlaw11.ArithDecodes", spec := "arithDecodes", named := ["unicode/utf8.first", "unicode/utf8.acceptRanges"], apart := false, laid := [("unicode/utf8.acceptRanges", laid_unicode_utf8_acceptRanges), ("unicode/utf8.first", laid_unicode_utf8_first)], narrowed := true }
def ArithDecodesUptoSaid : Prop := arithDecodesUptoRow.holds Tryd.pinned (OpenSpec.upto arithDecodesSpec)

/-- 'waveletlaw11.ArithRestores', WHERE WHAT IT READS IS OF BULK AT MOST 1048576: true; the input reads as it did. -/
def arithRestoresUptoRow : OpenClaim := { program := "ytbaappodeicomaadoor", sum := "0dffae719fe172b521042e7e8e991846c52a44e5838d1ddbafd2e9f3a63b3848", func := "wavelet/waveletlaw11.ArithRestores", spec := "arithRestores", named := ["unicode/utf8.first", "unicode/utf8.acceptRanges"], apart := false, laid := [("unicode/utf8.acceptRanges", laid_unicode_utf8_acceptRanges), ("unicode/utf8.first", laid_unicode_utf8_first)], narrowed := true }
def ArithRestoresUptoSaid : Prop := arithRestoresUptoRow.holds Tryd.pinned (OpenSpec.upto arithRestoresSpec)

/-- 'waveletlaw11.ArithPrefixes', WHERE WHAT IT READS IS OF BULK AT MOST 1048576: true; the input reads as it did. -/
def arithPrefixesUptoRow : OpenClaim := { program := "ytbaappodeicomaadoor", sum := "0dffae719fe172b521042e7e8e991846c52a44e5838d1ddbafd2e9f3a63b3848", func := "wavelet/waveletlaw11.ArithPrefixes", spec := "arithPrefixes", named := ["unicode/utf8.first", "unicode/utf8.acceptRanges"], apart := false, laid := [("unicode/utf8.acceptRanges", laid_unicode_utf8_acceptRanges), ("unicode/utf8.first", laid_unicode_utf8_first)], narrowed := true }
def ArithPrefixesUptoSaid : Prop := arithPrefixesUptoRow.holds Tryd.pinned (OpenSpec.upto arithPrefixesSpec)

/-- 'waveletlaw11.ArithShortest', WHERE WHAT IT READS IS OF BULK AT MOST 1048576: true; the input reads as it did. -/
def arithShortestUptoRow : OpenClaim := { program := "ytbaappodeicomaadoor", sum := "0dffae719fe172b521042e7e8e991846c52a44e5838d1ddbafd2e9f3a63b3848", func := "wavelet/waveletlaw11.ArithShortest", spec := "arithShortest", named := ["unicode/utf8.first", "unicode/utf8.acceptRanges"], apart := false, laid := [("unicode/utf8.acceptRanges", laid_unicode_utf8_acceptRanges), ("unicode/utf8.first", laid_unicode_utf8_first)], narrowed := true }
def ArithShortestUptoSaid : Prop := arithShortestUptoRow.holds Tryd.pinned (OpenSpec.upto arithShortestSpec)

/-- 'waveletlaw11.ArithResets', WHERE WHAT IT READS IS OF BULK AT MOST 1048576: true; the input reads as it did. -/
def arithResetsUptoRow : OpenClaim := { program := "ytbaappodeicomaadoor", sum := "0dffae719fe172b521042e7e8e991846c52a44e5838d1ddbafd2e9f3a63b3848", func := "wavelet/waveletlaw11.ArithResets", spec := "arithResets", named := ["unicode/utf8.first", "unicode/utf8.acceptRanges"], apart := false, laid := [("unicode/utf8.acceptRanges", laid_unicode_utf8_acceptRanges), ("unicode/utf8.first", laid_unicode_utf8_first)], narrowed := true }
def ArithResetsUptoSaid : Prop := arithResetsUptoRow.holds Tryd.pinned (OpenSpec.upto arithResetsSpec)

/-- 'waveletlaw11.ArithNone', WHERE WHAT IT READS IS OF BULK AT MOST 1048576: true; the input reads as it did. -/
def arithNoneUptoRow : OpenClaim := { program := "ytbaappodeicomaadoor", sum := "0dffae719fe172b521042e7e8e991846c52a44e5838d1ddbafd2e9f3a63b3848", func := "wavelet/waveletlaw11.ArithNone", spec := "arithNone", named := ["unicode/utf8.first", "unicode/utf8.acceptRanges"], apart := false, laid := [("unicode/utf8.acceptRanges", laid_unicode_utf8_acceptRanges), ("unicode/utf8.first", laid_unicode_utf8_first)], narrowed := true }
def ArithNoneUptoSaid : Prop := arithNoneUptoRow.holds Tryd.pinned (OpenSpec.upto arithNoneSpec)

/-- 'waveletlaw12.RawbitsWrites', WHERE WHAT IT READS IS OF BULK AT MOST 1048576: true; the input reads as it did. -/
def rawbitsWritesUptoRow : OpenClaim := { program := "ytbaappodeicomaadoor", sum := "0dffae719fe172b521042e7e8e991846c52a44e5838d1ddbafd2e9f3a63b3848", func := "wavelet/waveletlaw12.RawbitsWrites", spec := "rawbitsWrites", named := ["unicode/utf8.first", "unicode/utf8.acceptRanges"], apart := false, laid := [("unicode/utf8.acceptRanges", laid_unicode_utf8_acceptRanges), ("unicode/utf8.first", laid_unicode_utf8_first)], narrowed := true }
def RawbitsWritesUptoSaid : Prop := rawbitsWritesUptoRow.holds Tryd.pinned (OpenSpec.upto rawbitsWritesSpec)

/-- 'waveletlaw12.RawbitsReads', WHERE WHAT IT READS IS OF BULK AT MOST 1048576: true; the input reads as it did. -/
def rawbitsReadsUptoRow : OpenClaim := { program := "ytbaappodeicomaadoor", sum := "0dffae719fe172b521042e7e8e991846c52a44e5838d1ddbafd2e9f3a63b3848", func := "wavelet/waveletlaw12.RawbitsReads", spec := "rawbitsReads", named := ["unicode/utf8.first", "unicode/utf8.acceptRanges"], apart := false, laid := [("unicode/utf8.acceptRanges", laid_unicode_utf8_acceptRanges), ("unicode/utf8.first", laid_unicode_utf8_first)], narrowed := true }
def RawbitsReadsUptoSaid : Prop := rawbitsReadsUptoRow.holds Tryd.pinned (OpenSpec.upto rawbitsReadsSpec)

/-- 'waveletlaw12.RawbitsRestores', WHERE WHAT IT READS IS OF BULK AT MOST 1048576: true; the input reads as it did. -/
def rawbitsRestoresUptoRow : OpenClaim := { program := "ytbaappodeicomaadoor", sum := "0dffae719fe172b521042e7e8e991846c52a44e5838d1ddbafd2e9f3a63b3848", func := "wavelet/waveletlaw12.RawbitsRestores", spec := "rawbitsRestores", named := ["unicode/utf8.first", "unicode/utf8.acceptRanges"], apart := false, laid := [("unicode/utf8.acceptRanges", laid_unicode_utf8_acceptRanges), ("unicode/utf8.first", laid_unicode_utf8_first)], narrowed := true }
def RawbitsRestoresUptoSaid : Prop := rawbitsRestoresUptoRow.holds Tryd.pinned (OpenSpec.upto rawbitsRestoresSpec)

/-- 'waveletlaw12.RawbitsNone', WHERE WHAT IT READS IS OF BULK AT MOST 1048576: true; the input reads as it did. -/
def rawbitsNoneUptoRow : OpenClaim := { program := "ytbaappodeicomaadoor", sum := "0dffae719fe172b521042e7e8e991846c52a44e5838d1ddbafd2e9f3a63b3848", func := "wavelet/waveletlaw12.RawbitsNone", spec := "rawbitsNone", named := ["unicode/utf8.first", "unicode/utf8.acceptRanges"], apart := false, laid := [("unicode/utf8.acceptRanges", laid_unicode_utf8_acceptRanges), ("unicode/utf8.first", laid_unicode_utf8_first)], narrowed := true }
def RawbitsNoneUptoSaid : Prop := rawbitsNoneUptoRow.holds Tryd.pinned (OpenSpec.upto rawbitsNoneSpec)

end Rows
end Go.Proofs.YtbaappodeicomaaDoor
