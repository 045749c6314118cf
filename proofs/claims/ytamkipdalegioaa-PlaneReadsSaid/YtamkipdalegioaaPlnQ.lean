/-
  What the code's function and the reference's return is one and the same: New, At, Row, Column.
-/
import Derived.Test.YtamkipdalegioaaPlnP
import Derived.Test.YtamkipdalegioaaPlnO
namespace Go.Proofs.Ytamkipdalegioaa
open Go.RowKit

theorem new_both (a b c d : Int) :
    ∃ (R0 : Pl.R) (L0 : List Int) (E0 : Int), L0.length ≤ 1048576 ∧ (∀ w : World, Calls Try.prog 12 #[.agg #[.int .i64 a, .int .i64 b, .int .i64 c, .int .i64 d]] w (GivesPlane R0 L0 E0 w)) ∧ (∀ w : World, Calls Try.prog 15 #[.agg #[.int .i64 a, .int .i64 b, .int .i64 c, .int .i64 d]] w (GivesPlane R0 L0 E0 w)) := by
  by_cases hv : Pl.validB a b c d = true
  · by_cases ha : Pl.areaI a b c d ≤ 1048576
    · exact ⟨_, _, _, by rw [List.length_replicate]; omega, fun w => new_yes a b c d w hv ha, fun w => newr_yes a b c d w hv ha⟩
    · exact ⟨_, _, _, Nat.zero_le _, fun w => new_no2 a b c d w hv (by omega), fun w => newr_no2 a b c d w hv (by omega)⟩
  · have hv' : Pl.validB a b c d = false := by simpa using hv
    exact ⟨_, _, _, Nat.zero_le _, fun w => new_no1 a b c d w hv', fun w => newr_no1 a b c d w hv'⟩
theorem at_both (a b c d x y : Int) (s : Option Addr) (m : Nat) (l : List Int) :
    ∃ (v : Int) (ok : Bool), (∀ w : World, HoldsI w s l → Calls Try.prog 18 #[.agg #[.int .i64 a, .int .i64 b, .int .i64 c, .int .i64 d, .slice s l.length m], .int .i64 x, .int .i64 y] w (fun e w' => e = .returned (.tuple #[.int .i64 v, .bool ok]) ∧ Below w.heap.size w w')) ∧ (∀ w : World, HoldsI w s l → Calls Try.prog 19 #[.agg #[.int .i64 a, .int .i64 b, .int .i64 c, .int .i64 d, .slice s l.length m], .int .i64 x, .int .i64 y] w (fun e w' => e = .returned (.tuple #[.int .i64 v, .bool ok]) ∧ Below w.heap.size w w')) := by
  by_cases hp : pvB a b c d l.length = true
  · by_cases hh : Pl.hasB a b c d x y = true
    · exact ⟨_, _, fun w hH => at_gv _ _ _ _ _ _ _ _ _ w hp hh hH, fun w hH => atr_yes _ _ _ _ _ _ _ _ _ w hp hh hH⟩
    · have hh' : Pl.hasB a b c d x y = false := by simpa using hh
      exact ⟨_, _, fun w _ => at_no _ _ _ _ _ _ _ _ _ w (.inr ⟨hp, hh'⟩), fun w _ => atr_no _ _ _ _ _ _ _ _ _ w (.inr ⟨hp, hh'⟩)⟩
  · have hp' : pvB a b c d l.length = false := by simpa using hp
    exact ⟨_, _, fun w _ => at_no _ _ _ _ _ _ _ _ _ w (.inl hp'), fun w _ => atr_no _ _ _ _ _ _ _ _ _ w (.inl hp')⟩
theorem row_both (a b c d y : Int) (s : Option Addr) (m : Nat) (l : List Int) (hm : l.length ≤ m) :
    ∃ (L : List Int) (ok : Bool), L.length ≤ 1048576 ∧ (∀ w : World, HoldsI w s l → Calls Try.prog 22 #[.agg #[.int .i64 a, .int .i64 b, .int .i64 c, .int .i64 d, .slice s l.length m], .int .i64 y] w (GivesInts L ok w)) ∧ (∀ w : World, HoldsI w s l → Calls Try.prog 23 #[.agg #[.int .i64 a, .int .i64 b, .int .i64 c, .int .i64 d, .slice s l.length m], .int .i64 y] w (GivesInts L ok w)) := by
  by_cases hp : pvB a b c d l.length = true
  · obtain ⟨hv, _, _⟩ := pv_iff.1 hp
    obtain ⟨v1, v2, v3, v4, v5, v6⟩ := Pl.valid_iff.1 hv
    by_cases h1 : b ≤ y
    · by_cases h2 : y < d
      · exact ⟨_, _, by rw [rowL_len]; dsimp only; omega, fun w hH => row_yes _ _ _ _ _ _ _ _ w hp h1 h2 hm hH, fun w hH => rowr_yes _ _ _ _ _ _ _ _ w hp h1 h2 hH⟩
      · exact ⟨_, _, Nat.zero_le _, fun w _ => row_no _ _ _ _ _ _ _ _ w (.inr ⟨hp, .inr (by omega)⟩), fun w _ => rowr_no _ _ _ _ _ _ _ _ w (.inr ⟨hp, .inr (by omega)⟩)⟩
    · exact ⟨_, _, Nat.zero_le _, fun w _ => row_no _ _ _ _ _ _ _ _ w (.inr ⟨hp, .inl (by omega)⟩), fun w _ => rowr_no _ _ _ _ _ _ _ _ w (.inr ⟨hp, .inl (by omega)⟩)⟩
  · have hp' : pvB a b c d l.length = false := by simpa using hp
    exact ⟨_, _, Nat.zero_le _, fun w _ => row_no _ _ _ _ _ _ _ _ w (.inl hp'), fun w _ => rowr_no _ _ _ _ _ _ _ _ w (.inl hp')⟩
theorem col_both (a b c d x : Int) (s : Option Addr) (m : Nat) (l : List Int) :
    ∃ (L : List Int) (ok : Bool), L.length ≤ 1048576 ∧ (∀ w : World, HoldsI w s l → Calls Try.prog 25 #[.agg #[.int .i64 a, .int .i64 b, .int .i64 c, .int .i64 d, .slice s l.length m], .int .i64 x] w (GivesInts L ok w)) ∧ (∀ w : World, HoldsI w s l → Calls Try.prog 26 #[.agg #[.int .i64 a, .int .i64 b, .int .i64 c, .int .i64 d, .slice s l.length m], .int .i64 x] w (GivesInts L ok w)) := by
  by_cases hp : pvB a b c d l.length = true
  · obtain ⟨hv, _, _⟩ := pv_iff.1 hp
    obtain ⟨v1, v2, v3, v4, v5, v6⟩ := Pl.valid_iff.1 hv
    by_cases h1 : a ≤ x
    · by_cases h2 : x < c
      · exact ⟨_, _, by rw [colL_len]; dsimp only; omega, fun w hH => col_yes _ _ _ _ _ _ _ _ w hp h1 h2 hH, fun w hH => colr_yes _ _ _ _ _ _ _ _ w hp h1 h2 hH⟩
      · exact ⟨_, _, Nat.zero_le _, fun w _ => col_no _ _ _ _ _ _ _ _ w (.inr ⟨hp, .inr (by omega)⟩), fun w _ => colr_no _ _ _ _ _ _ _ _ w (.inr ⟨hp, .inr (by omega)⟩)⟩
    · exact ⟨_, _, Nat.zero_le _, fun w _ => col_no _ _ _ _ _ _ _ _ w (.inr ⟨hp, .inl (by omega)⟩), fun w _ => colr_no _ _ _ _ _ _ _ _ w (.inr ⟨hp, .inl (by omega)⟩)⟩
  · have hp' : pvB a b c d l.length = false := by simpa using hp
    exact ⟨_, _, Nat.zero_le _, fun w _ => col_no _ _ _ _ _ _ _ _ w (.inl hp'), fun w _ => colr_no _ _ _ _ _ _ _ _ w (.inl hp')⟩
end Go.Proofs.Ytamkipdalegioaa
