/-
  Layer 14: SamePoints on equal lists.
-/
import Derived.Test.YtnmmgjbjnhiaoaaDoorPc
import Derived.Laws.StructEq
set_option maxRecDepth 100000
namespace Go.Proofs.YtnmmgjbjnhiaoaaDoor
open Go.RowKit

theorem fieldsPt : (Tryd.prog.fieldsOf 122).toList = [⟨"X", 3, 0, false, "", "", 0⟩, ⟨"Y", 3, 1, false, "", "", 8⟩] := by kernel_rfl
theorem eqPt (a b : Int) (w : World) : (Op.equalIn 10000 122 (.agg #[.int .i64 a, .int .i64 b]) (.agg #[.int .i64 a, .int .i64 b])).run Tryd.prog w = .ok true w := by
  have hu : Tryd.prog.underlying 122 = some (.struct (Tryd.prog.fieldsOf 122)) := by kernel_rfl
  have hp : Tryd.prog.stoodInHeld 122 = false := by kernel_rfl
  have h3 : Tryd.prog.underlying 3 = some (.int .i64) := by kernel_rfl
  have he := fun (x y : Int) => run_equalIn_int (P := Tryd.prog) w 9998 3 .i64 .i64 x y h3
  rw [run_equalIn_struct _ _ _ _ _ hu hp, fieldsPt]
  simp only [Op.eqFields, part]
  simp [he]
theorem scan_len (w h : Nat) (hw : w ≤ 64) (hh : h ≤ 64) : (scan w h).length ≤ 8192 := by
  have := scnP_len w h ((h + 3) / 4) hw
  unfold scan; omega
end Go.Proofs.YtnmmgjbjnhiaoaaDoor
