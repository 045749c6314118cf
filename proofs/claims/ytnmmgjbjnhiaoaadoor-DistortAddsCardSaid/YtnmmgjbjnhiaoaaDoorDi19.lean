/-
  Layer 19: the reference's Weight.
-/
import Derived.Test.YtnmmgjbjnhiaoaaDoorDg19
set_option maxRecDepth 100000
namespace Go.Proofs.YtnmmgjbjnhiaoaaDoor
open Go.RowKit

theorem lv1 {k : Int} (h : 1 ≤ k ∧ k < 5) : k = 1 ∨ k = 2 ∨ k = 3 ∨ k = 4 := by omega
theorem wgt_step {k : Int} (h : 1 ≤ k ∧ k < 5) : min 16 (wrap64 (4 * wgt k)) = wgt (k + 1) := by
  rcases lv1 h with h | h | h | h <;> subst h <;> simp [wgt, wrap64] <;> omega
set_option maxHeartbeats 4000000 in
theorem rweight_c (l i : Int) (W : World) : Calls Tryd.prog 10 #[.int .i64 l, .int .i64 i] W fun e w' => e = .returned (.int .i64 (wgtI l i)) ∧ w' = W := by
  have kp := zplace_c i l W
  have hin := lvl_in i l
  unfold PlG at kp
  unfold wgtI
  have hmx9 := fun x y : Int => hmx x y
  have hmn9 := fun x y : Int => hmn x y
  by_cases ho : okP i l
  · rw [decide_eq_true ho] at kp
    rw [if_pos ho]
    clear ho
    generalize lvl i l = n at *
    go_enter Tryd.func10, Tryd.ntmps10
    go_wp2_with (first | (go_at_call 26; (with_reducible refine kp.mono ?_); rintro e wn ⟨o, rfl, rfl⟩) | fail)
    go_loopw [8, 9] (fun v u wr => ∃ k : Int, 1 ≤ k ∧ k ≤ max 1 n ∧ u = .int .i64 k ∧ v = .int .i64 (wgt k) ∧ wr = wn) (fun _ u _ => 6 - (intOf u).toNat)
    case atStart => exact ⟨1, by omega, by omega, rfl, rfl, rfl⟩
    case round =>
      obtain ⟨k, hk1, hk2, rfl, rfl, rfl⟩ := hrel
      by_cases hlt : k < n
      · have HK := Lib.hid hk2
        have HI := Lib.hid hin
        rcases lv1 (k := k) ⟨hk1, by omega⟩ with h | h | h | h <;> subst h <;>
        · have HN := Lib.hid hlt
          clear hk1 hk2 hin
          go_wp2_with fail
          go_roundw
          case rel => exact ⟨_, by omega, by have := HN.out; omega, rfl, congrArg (Value.int .i64) (wgt_step (by decide)), (by first | trivial | rfl)⟩
          case measure => simp [intOf]
      · have hw : wgt k = wgt n := by unfold wgt; split <;> split <;> omega
        rw [hw]
        clear hw hk1 hk2 hin
        go_wp2_with fail
        go_ret
        exact ⟨rfl, rfl⟩
  · rw [decide_eq_false ho] at kp
    rw [if_neg ho]
    clear ho hin
    go_enter Tryd.func10, Tryd.ntmps10
    go_wp2_with (first | (go_at_call 26; (with_reducible refine kp.mono ?_); rintro e wn ⟨o, rfl, rfl⟩) | fail)
    go_ret
    exact ⟨rfl, rfl⟩
end Go.Proofs.YtnmmgjbjnhiaoaaDoor
