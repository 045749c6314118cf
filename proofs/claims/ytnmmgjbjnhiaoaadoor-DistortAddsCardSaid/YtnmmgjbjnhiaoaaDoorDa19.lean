/-
  Layer 18, for the example of layer 19: a block of no passes is decoded.
-/
import Derived.Test.YtnmmgjbjnhiaoaaDoorPj
import Derived.Test.YtnmmgjbjnhiaoaaDoorQDc
import Derived.Test.YtnmmgjbjnhiaoaaDoorPn
import Derived.Test.YtnmmgjbjnhiaoaaDoorPe
set_option maxRecDepth 100000
namespace Go.Proofs.YtnmmgjbjnhiaoaaDoor
open Go.RowKit

abbrev zeroCd : Value := .agg #[.int .i64 0, .slice none 0 0, .slice none 0 0]
abbrev zeroMd : Value := .agg #[.bool false, .bool false, .bool false, .bool false, .bool false]
theorem bvalid_0 (W : World) : Calls Tryd.prog 34 #[zeroCd, zeroMd] W fun e w' => e = .returned (.int .i64 0) ∧ Below W.heap.size W w' := by
  unfold zeroCd zeroMd
  obtain ⟨WA, hWA⟩ : ∃ x, x = (W.alloc (.cells #[.int .i64 0, .slice none 0 0, .slice none 0 0] 40)).alloc (.cells #[.bool false, .bool false, .bool false, .bool false, .bool false] 43) := ⟨_, rfl⟩
  have hB : Below W.heap.size W WA := by rw [hWA]; exact below_alloc (below_alloc (Below.refl _ W) _) _
  have hX : Blk WA W.heap.size 40 #[.int .i64 0, .slice none 0 0, .slice none 0 0] := by rw [hWA]; exact (Blk.new W _ _).alloc _
  have HB := Lib.hid hB
  have HX := Lib.hid hX
  have HWA := Lib.hid hWA
  have mx0 : max (0 : Int) (-2) = 0 := by decide
  clear hB hX hWA
  go_enter Tryd.func34, Tryd.ntmps34
  go_wp2_with fail
  rw [← HWA.out]
  go_loopw [5, 28] (fun e i wr => e = .int .i64 0 ∧ i = .int .i64 0 ∧ wr = WA) (fun _ _ _ => 0)
  case atStart => exact ⟨rfl, rfl, rfl⟩
  case round =>
    obtain ⟨rfl, rfl, rfl⟩ := hrel
    have x0 : wr.cell? ⟨W.heap.size, 0, none⟩ = some (.int .i64 0) := HX.out.cell 0
    have x1 : wr.cell? ⟨W.heap.size, 1, none⟩ = some (.slice none 0 0) := HX.out.cell 1
    have x2 : wr.cell? ⟨W.heap.size, 2, none⟩ = some (.slice none 0 0) := HX.out.cell 2
    go_wp2_with fail
    go_ret
    exact ⟨rfl, HB.out⟩
end Go.Proofs.YtnmmgjbjnhiaoaaDoor
