/-
  Layer 14: SamePoints on equal lists.
-/
import Derived.Test.YtdpfojenljejiaaPc
import Derived.Laws.StructEq
set_option maxRecDepth 100000
namespace Go.Proofs.Ytdpfojenljejiaa
open Go.RowKit

theorem fieldsPt : (Try.prog.fieldsOf 63).toList = [⟨"X", 3, 0, false, "", "", 0⟩, ⟨"Y", 3, 1, false, "", "", 8⟩] := by kernel_rfl
theorem eqPt (a b : Int) (w : World) : (Op.equalIn 10000 63 (.agg #[.int .i64 a, .int .i64 b]) (.agg #[.int .i64 a, .int .i64 b])).run Try.prog w = .ok true w := by
  have hu : Try.prog.underlying 63 = some (.struct (Try.prog.fieldsOf 63)) := by kernel_rfl
  have hp : Try.prog.stoodInHeld 63 = false := by kernel_rfl
  have h3 : Try.prog.underlying 3 = some (.int .i64) := by kernel_rfl
  have he := fun (x y : Int) => run_equalIn_int (P := Try.prog) w 9998 3 .i64 .i64 x y h3
  rw [run_equalIn_struct _ _ _ _ _ hu hp, fieldsPt]
  simp only [Op.eqFields, part]
  simp [he]
theorem sameP_t (w : World) (l : List (Int × Int)) (s t : Option Addr) (n m k : Nat) (hn : n = l.length) (ha : HoldsP w s l) (hb : HoldsP w t l) (hl : l.length ≤ 1000000000) :
    Calls Try.prog 21 #[.slice s n m, .slice t n k] w fun e w' => e = .returned (.bool true) ∧ Below w.heap.size w w' := by
  subst hn
  have HA := Lib.hid ha
  have HB := Lib.hid hb
  clear ha hb
  have heq := eqPt
  go_enter Try.func21, Try.ntmps21
  go_wp2_with fail
  go_loopw [5] (fun i wr => ∃ j : Nat, j ≤ l.length ∧ i = .int .i64 (j : Int) ∧ Below w.heap.size w wr) (fun i _ => l.length - (intOf i).toNat)
  case atStart => exact ⟨0, Nat.zero_le _, rfl, Below.refl _ _⟩
  case round =>
    obtain ⟨j, hj, rfl, hW⟩ := hrel
    by_cases hlt : j < l.length
    · obtain ⟨g, rfl, hc, hd⟩ := (HA.out.call hW).at hlt
      obtain ⟨g2, rfl, hc2, hd2⟩ := (HB.out.call hW).at hlt
      generalize l[j].1 = x at *
      generalize l[j].2 = y at *
      go_wp2_with fail
      go_quiet (fail)
      go_wp2_with fail
      go_roundw
      case rel => exact ⟨j + 1, by omega, by go_num, hW.trans ((drewN_below wr nq).mono hW.size)⟩
      case measure => simp [intOf]; omega
    · obtain rfl : j = l.length := by omega
      go_wp2_with fail
      go_ret
      exact ⟨rfl, hW⟩
theorem scan_len (w h : Nat) (hw : w ≤ 64) (hh : h ≤ 64) : (scan w h).length ≤ 8192 := by
  have := scnP_len w h ((h + 3) / 4) hw
  unfold scan; omega
end Go.Proofs.Ytdpfojenljejiaa
