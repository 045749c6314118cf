/-
  No cell of these rows narrows 'for every input' (looked for: loops, veiled, ifaces, maps, wideKeys, modest, calm, conditions, laid).
  DERIVED. THE GIVEN ROWS OF THIS SEAT. 3 by the template 'for every input the law returns true; each argument reads behind the call as it read before'; 0 by the template 'total and deterministic' (their statements: YtkohdiajpdlkjaaTotals.lean).
  GIVEN WITH THE SEED: the statements are not yours to turn. If you find one false, say at which input.
  Laid BY PROGRAM, IN A SANDBOX (cutbox-rows.mjs): the forced cells as the released guide's own fill.sh prints them over the translation d40b5d8b1861eb49… (all of the seat's roots in one cut). By AI agents, Wed Nov 11 2026. No macro, syntax, notation, axiom, sorry.
-/
import Derived.Test.YtkohdiajpdlkjaaChecked
import GoSem.Claim
import GoSem.ClaimJoined
import GoSem.ClaimMapViews
import Derived.JoinedTies
import Derived.KernelRfl
namespace Go.Proofs.Ytkohdiajpdlkjaa
/- THE CELL 'sum', in the pinned program and in every row, IS THE sha256 OF THE DUMP (.gsa) THAT YtkohdiajpdlkjaaProg.lean LOADS. Nothing in Lean hashes anything: it is a label: what it is worth is what the hold of that sum in a sandbox is worth. -/
noncomputable def Try.pinned : Pinned := { name := "ytkohdiajpdlkjaa", sum := "d40b5d8b1861eb4906cf02c409eb6e915b41c4961ef81fe948de60a01beb49d7", checked := Try.checked }
namespace Rows
def none {H : Type} : Left H := { results := [], args := [] }

/-- 'waveletlaw21.AllocChoose': WHATEVER THE INPUT: true; the input reads as it did. -/
def allocChooseSpec : ChangeSpec := { name := "allocChoose", fn := fun _ => fun
  | [d1, d2] => { results := [.lit (.bool true)], args := [d1, d2] }
  | _ => none }
def allocChooseRow : OpenClaim := { program := "ytkohdiajpdlkjaa", sum := "d40b5d8b1861eb4906cf02c409eb6e915b41c4961ef81fe948de60a01beb49d7", func := "wavelet/waveletlaw21.AllocChoose", spec := "allocChoose", unfollowed := true, recurses := true, apart := false }
def AllocChooseSaid : Prop := allocChooseRow.holds Try.pinned (OpenSpec.ofChange allocChooseSpec)

/-- ITS FALSE NEIGHBOUR: 'it returns false'. Refute it at one input. -/
def allocChooseWrong : ChangeSpec := { name := "allocChoose", fn := fun _ => fun
  | [d1, d2] => { results := [.lit (.bool false)], args := [d1, d2] }
  | _ => none }
def AllocChooseWrongFalsely : Prop := allocChooseRow.holds Try.pinned (OpenSpec.ofChange allocChooseWrong)

/-- 'waveletlaw21.AllocLayers': WHATEVER THE INPUT: true; the input reads as it did. -/
def allocLayersSpec : ChangeSpec := { name := "allocLayers", fn := fun _ => fun
  | [d1, d2] => { results := [.lit (.bool true)], args := [d1, d2] }
  | _ => none }
def allocLayersRow : OpenClaim := { program := "ytkohdiajpdlkjaa", sum := "d40b5d8b1861eb4906cf02c409eb6e915b41c4961ef81fe948de60a01beb49d7", func := "wavelet/waveletlaw21.AllocLayers", spec := "allocLayers", unfollowed := true, recurses := true, apart := false }
def AllocLayersSaid : Prop := allocLayersRow.holds Try.pinned (OpenSpec.ofChange allocLayersSpec)

/-- ITS FALSE NEIGHBOUR: 'it returns false'. Refute it at one input. -/
def allocLayersWrong : ChangeSpec := { name := "allocLayers", fn := fun _ => fun
  | [d1, d2] => { results := [.lit (.bool false)], args := [d1, d2] }
  | _ => none }
def AllocLayersWrongFalsely : Prop := allocLayersRow.holds Try.pinned (OpenSpec.ofChange allocLayersWrong)

/-- 'waveletlaw21.AllocOptimal': WHATEVER THE INPUT: true; the input reads as it did. -/
def allocOptimalSpec : ChangeSpec := { name := "allocOptimal", fn := fun _ => fun
  | [d1, d2] => { results := [.lit (.bool true)], args := [d1, d2] }
  | _ => none }
def allocOptimalRow : OpenClaim := { program := "ytkohdiajpdlkjaa", sum := "d40b5d8b1861eb4906cf02c409eb6e915b41c4961ef81fe948de60a01beb49d7", func := "wavelet/waveletlaw21.AllocOptimal", spec := "allocOptimal", unfollowed := true, recurses := true, apart := false }
def AllocOptimalSaid : Prop := allocOptimalRow.holds Try.pinned (OpenSpec.ofChange allocOptimalSpec)

/-- ITS FALSE NEIGHBOUR: 'it returns false'. Refute it at one input. -/
def allocOptimalWrong : ChangeSpec := { name := "allocOptimal", fn := fun _ => fun
  | [d1, d2] => { results := [.lit (.bool false)], args := [d1, d2] }
  | _ => none }
def AllocOptimalWrongFalsely : Prop := allocOptimalRow.holds Try.pinned (OpenSpec.ofChange allocOptimalWrong)

/- THE SECOND FORM. 'bulk': how many values and letters a reading holds, each counted each time it is reached (what is shared counts as often as it is met; a slice's spare places count too). A statement '..UptoSaid' is the law's where the arguments, and the package variables that the reading takes, are together of bulk at most 1048576: NARROWER than '..Said'. Prove '..Said' where nothing that the law and all that it calls make is longer than what came in: it says more and counts as full. Else prove '..UptoSaid'. A law counts once. -/
mutual
def uptoBulk {H : Type} : DataW H → Nat
  | .lit (.string bytes) => bytes.length + 1
  | .lit _ => 1
  | .nil => 1
  | .ptr d => uptoBulk d + 1
  | .slice elems spare => uptoBulkAll elems + uptoBulkAll spare + 1
  | .agg parts => uptoBulkAll parts + 1
  | .iface _ d => uptoBulk d + 1
  | .map entries => uptoBulkEntries entries + 1
  | .held _ => 1
def uptoBulkAll {H : Type} : List (DataW H) → Nat
  | [] => 0
  | d :: r => uptoBulk d + uptoBulkAll r
def uptoBulkEntries {H : Type} : List (Lit × DataW H) → Nat
  | [] => 0
  | x :: r => uptoBulkEntry x + uptoBulkEntries r
def uptoBulkEntry {H : Type} : Lit × DataW H → Nat
  | (.string bytes, d) => bytes.length + uptoBulk d + 1
  | (_, d) => uptoBulk d + 1
 end
def uptoSmall : (H : Type) → List (DataW H) → Bool := fun _ ds => decide (uptoBulkAll ds ≤ 1048576)
def OpenSpec.upto (s : _root_.Go.ChangeSpec) : _root_.Go.OpenSpec := { _root_.Go.OpenSpec.ofChange s with cond := some uptoSmall }

/-- 'waveletlaw21.AllocChoose', WHERE WHAT IT READS IS OF BULK AT MOST 1048576: true; the input reads as it did. -/
def allocChooseUptoRow : OpenClaim := { program := "ytkohdiajpdlkjaa", sum := "d40b5d8b1861eb4906cf02c409eb6e915b41c4961ef81fe948de60a01beb49d7", func := "wavelet/waveletlaw21.AllocChoose", spec := "allocChoose", unfollowed := true, recurses := true, apart := false, narrowed := true }
def AllocChooseUptoSaid : Prop := allocChooseUptoRow.holds Try.pinned (OpenSpec.upto allocChooseSpec)

/-- 'waveletlaw21.AllocLayers', WHERE WHAT IT READS IS OF BULK AT MOST 1048576: true; the input reads as it did. -/
def allocLayersUptoRow : OpenClaim := { program := "ytkohdiajpdlkjaa", sum := "d40b5d8b1861eb4906cf02c409eb6e915b41c4961ef81fe948de60a01beb49d7", func := "wavelet/waveletlaw21.AllocLayers", spec := "allocLayers", unfollowed := true, recurses := true, apart := false, narrowed := true }
def AllocLayersUptoSaid : Prop := allocLayersUptoRow.holds Try.pinned (OpenSpec.upto allocLayersSpec)

/-- 'waveletlaw21.AllocOptimal', WHERE WHAT IT READS IS OF BULK AT MOST 1048576: true; the input reads as it did. -/
def allocOptimalUptoRow : OpenClaim := { program := "ytkohdiajpdlkjaa", sum := "d40b5d8b1861eb4906cf02c409eb6e915b41c4961ef81fe948de60a01beb49d7", func := "wavelet/waveletlaw21.AllocOptimal", spec := "allocOptimal", unfollowed := true, recurses := true, apart := false, narrowed := true }
def AllocOptimalUptoSaid : Prop := allocOptimalUptoRow.holds Try.pinned (OpenSpec.upto allocOptimalSpec)

end Rows
end Go.Proofs.Ytkohdiajpdlkjaa
