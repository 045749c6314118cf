/-
  Layer 19: errors of coefficients and their sums: mathematics; contracts of Error and Total, code and reference.
-/
import Derived.Test.YtnmmgjbjnhiaoaaDoorQnS
import Derived.Test.YtnmmgjbjnhiaoaaDoorObj6
import Derived.Test.YtnmmgjbjnhiaoaaDoorPj
set_option maxRecDepth 100000
namespace Go.Proofs.YtnmmgjbjnhiaoaaDoor
open Go.RowKit

/-- The error of a coefficient. -/
def erI (c v m s d : Int) : Int := min (max (min (max c (-281474976710656)) 281474976710656 - Qu.rec_ v m s d) (-(min (max c (-281474976710656)) 281474976710656 - Qu.rec_ v m s d))) 32767
theorem rec_in (v m s d : Int) : -4294967296 ≤ Qu.rec_ v m s d ∧ Qu.rec_ v m s d ≤ 4294967296 := by
  unfold Qu.rec_
  by_cases h : v ≠ 0 ∧ Qu.vB s d = true ∧ Qu.mB m = true
  · rw [if_pos h]
    have hn := abs_pos h.1
    have h1 := lo_pos h.2.1 hn
    have h2 := lo_hi (n := Qu.absI v) (m := m) h.2.1
    have h3 : 0 ≤ (Qu.loX (Qu.absI v) s d + Qu.hiX (Qu.absI v) m s d) / 2 := Int.ediv_nonneg (by omega) (by decide)
    generalize (Qu.loX (Qu.absI v) s d + Qu.hiX (Qu.absI v) m s d) / 2 = x at *
    unfold Qu.sgn
    split <;> omega
  · rw [if_neg h]; omega
theorem er_in (c v m s d : Int) : 0 ≤ erI c v m s d ∧ erI c v m s d ≤ 32767 := by
  unfold erI
  generalize min (max c (-281474976710656)) 281474976710656 - Qu.rec_ v m s d = x
  omega
theorem er_ref (c v m s d : Int) : erI c v m s d = min (max (min (max c (-17179869184)) 17179869184 - Qu.rec_ v m s d) (-(min (max c (-17179869184)) 17179869184 - Qu.rec_ v m s d))) 32767 := by
  have := rec_in v m s d
  unfold erI
  generalize Qu.rec_ v m s d = x at *
  omega
def eQ (l1 l2 l3 : List Int) (s d : Int) (i : Nat) : Int := erI (l1.getD i 0) (l2.getD i 0) (l3.getD i 0) s d
def suE (l1 l2 l3 : List Int) (s d : Int) : Nat → Int
  | 0 => 0
  | k + 1 => suE l1 l2 l3 s d k + eQ l1 l2 l3 s d k * eQ l1 l2 l3 s d k
theorem sq_in (x : Int) (h0 : 0 ≤ x) (h1 : x ≤ 32767) : 0 ≤ x * x ∧ x * x ≤ 1073676289 := by
  have a := Int.mul_nonneg h0 h0
  have b : x * x ≤ 32767 * 32767 := Int.mul_le_mul h1 h1 h0 (by decide)
  omega
theorem suE_in (l1 l2 l3 : List Int) (s d : Int) (k : Nat) : 0 ≤ suE l1 l2 l3 s d k ∧ suE l1 l2 l3 s d k ≤ 1073676289 * (k : Int) := by
  induction k with
  | zero => exact ⟨Int.le_refl _, by show (0 : Int) ≤ 1073676289 * ((0 : Nat) : Int); omega⟩
  | succ k ih =>
    obtain ⟨a, b⟩ := er_in (l1.getD k 0) (l2.getD k 0) (l3.getD k 0) s d
    have := sq_in _ a b
    unfold suE eQ
    generalize erI (l1.getD k 0) (l2.getD k 0) (l3.getD k 0) s d * erI (l1.getD k 0) (l2.getD k 0) (l3.getD k 0) s d = x at *
    omega
def msB (m : Int) : Prop := 0 ≤ m ∧ m ≤ 60
instance (m : Int) : Decidable (msB m) := by unfold msB; infer_instance
/-- All numbers of missing planes are in their range. -/
def AllM (l : List Int) : Prop := ∀ i, i < l.length → msB (l.getD i 0)
instance (l : List Int) : Decidable (AllM l) := by unfold AllM; infer_instance
/-- The error of Total's arguments. -/
def toE (l1 l2 l3 : List Int) (s d w : Int) : Int := if l2.length ≠ l1.length ∨ l3.length ≠ l1.length then 4 else if 4096 < l1.length then 5 else if Qu.vB s d = false ∨ w < 0 ∨ 16 < w then 2 else if AllM l3 then 0 else 2
def toV (l1 l2 l3 : List Int) (s d w : Int) : Int := if toE l1 l2 l3 s d w = 0 then w * suE l1 l2 l3 s d l1.length else 0
theorem derror_c (c v m s d : Int) (W : World) (hv : i64R v) : Calls Tryd.prog 12 #[.int .i64 c, .int .i64 v, .int .i64 m, .int .i64 s, .int .i64 d] W fun e w' => e = .returned (.int .i64 (erI c v m s d)) ∧ w' = W := by
  have kr := fun W => rec_q v m s d W hv.1 hv.2
  have hr := rec_in v m s d
  have hmx9 := fun x y : Int => hmx x y
  have hmn9 := fun x y : Int => hmn x y
  unfold erI
  generalize Qu.rec_ v m s d = x at *
  obtain ⟨y, hy⟩ : ∃ y, y = min (max c (-281474976710656)) 281474976710656 := ⟨_, rfl⟩
  have w1 : IntKind.i64.wrap (y - x) = y - x := by rw [IntWalk.i64_left]; unfold wrap64; omega
  have w2 : IntKind.i64.wrap (-(y - x)) = -(y - x) := by rw [IntWalk.i64_left]; unfold wrap64; omega
  rw [hy] at w1 w2
  clear hy hr
  go_enter Tryd.func12, Tryd.ntmps12
  go_wp2_with (first | (go_at_call 29; (with_reducible refine (kr _).mono ?_); rintro e wn ⟨rfl, rfl⟩) | fail)
  go_ret
  exact ⟨by first | rfl | simp, rfl⟩
theorem rerror_c (c v m s d : Int) (W : World) : Calls Tryd.prog 13 #[.int .i64 c, .int .i64 v, .int .i64 m, .int .i64 s, .int .i64 d] W fun e w' => e = .returned (.int .i64 (erI c v m s d)) ∧ w' = W := by
  have kr := fun W => rec_r v m s d W
  have hr := rec_in v m s d
  have hmx9 := fun x y : Int => hmx x y
  have hmn9 := fun x y : Int => hmn x y
  rw [er_ref]
  generalize Qu.rec_ v m s d = x at *
  obtain ⟨y, hy⟩ : ∃ y, y = min (max c (-17179869184)) 17179869184 := ⟨_, rfl⟩
  have w1 : IntKind.i64.wrap (y - x) = y - x := by rw [IntWalk.i64_left]; unfold wrap64; omega
  have w2 : IntKind.i64.wrap (-(y - x)) = -(y - x) := by rw [IntWalk.i64_left]; unfold wrap64; omega
  rw [hy] at w1 w2
  clear hy hr
  go_enter Tryd.func13, Tryd.ntmps13
  go_wp2_with (first | (go_at_call 30; (with_reducible refine (kr _).mono ?_); rintro e wn ⟨rfl, rfl⟩) | fail)
  go_ret
  exact ⟨by first | rfl | simp, rfl⟩
end Go.Proofs.YtnmmgjbjnhiaoaaDoor
