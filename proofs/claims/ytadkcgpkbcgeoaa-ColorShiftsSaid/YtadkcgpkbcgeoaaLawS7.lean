/-
  A component by value, opened; Shift and Unshift, the program's and the reference's, give one answer.
-/
import Derived.Test.YtadkcgpkbcgeoaaCoV
import Derived.Test.YtadkcgpkbcgeoaaOpenQ
set_option maxRecDepth 100000
namespace Go.Proofs.Ytadkcgpkbcgeoaa
open Go.ChangeShapes Go.WideShapes Go.ChangeAt Go.RowKit Go.Joins Go.Deep

theorem cellsC : Try.prog.cellsOf 42 = 4 := by kernel_rfl
set_option maxRecDepth 100000 in
theorem open_comp {H : Type} {enc : TypeId × Value → H} {w : World} {r : Reach} {b0 base : Nat} {spare : Nat → Bool} {held : Bool} {v : Value} {d : DataW H} {p : List MemPlace}
    (hv : Value.okWide Try.prog w r b0 42 v) (h : DataW.Trod enc Try.prog w base spare held 42 v d p) :
    ∃ (n : Int) (sg : Bool) (x y : Int), v = .agg #[.int .i64 n, .bool sg, .int .i64 x, .int .i64 y] := by
  obtain ⟨c0, c1, c2, c3, y0, y1, y2, y3, m, rfl, _, _, h0, h1, h2, h3⟩ := open_agg4 Try.underlying42 (by kernel_rfl) cellsC hv h
  obtain ⟨n, e0, rfl, _⟩ := DataW.trod_int Try.underlying3 h0
  obtain ⟨sg, e1, rfl⟩ := DataW.trod_bool Try.underlying4 h1
  obtain ⟨x, e2, rfl, _⟩ := DataW.trod_int Try.underlying3 h2
  obtain ⟨y, e3, rfl, _⟩ := DataW.trod_int Try.underlying3 h3
  simp at e0 e1 e2 e3
  subst e0 e1 e2 e3
  exact ⟨n, sg, x, y, rfl⟩
theorem sh_both (a b c d n x y : Int) (sg : Bool) (s : Option Addr) (m : Nat) (l : List Int) (hs : s = none → l.length = 0 ∧ m = 0) :
    ∃ (R0 : Pl.R) (L0 : List Int) (E0 : Int), L0.length ≤ 1048576 ∧ (∀ w : World, HoldsI w s l → Calls Try.prog 35 #[.agg #[.int .i64 a, .int .i64 b, .int .i64 c, .int .i64 d, .slice s l.length m], .agg #[.int .i64 n, .bool sg, .int .i64 x, .int .i64 y]] w (GivesPlane R0 L0 E0 w)) ∧ (∀ w : World, HoldsI w s l → Calls Try.prog 36 #[.agg #[.int .i64 a, .int .i64 b, .int .i64 c, .int .i64 d, .slice s l.length m], .agg #[.int .i64 n, .bool sg, .int .i64 x, .int .i64 y]] w (GivesPlane R0 L0 E0 w)) := by
  by_cases hp : pvB a b c d l.length = true
  · cases hd : Co.dB n with
    | false => exact ⟨_, _, _, Nat.zero_le _, fun w hH => sh_no2 a b c d n x y sg s m l w hH hp hd, fun w hH => shr_no2 a b c d n x y sg s m l w hH hp hd⟩
    | true =>
      cases hi : inB (Co.rgL sg n) (Co.rgH sg n) l with
      | false => exact ⟨_, _, _, Nat.zero_le _, fun w hH => sh_no3 a b c d n x y sg s m l w hH hp hd hi, fun w hH => (shr_all a b c d n x y sg s m l w hH hp hd).mono fun _ _ h => h.2 hi⟩
      | true => exact ⟨_, _, _, by rw [addL_len]; exact pv_le hp, fun w hH => sh_yes a b c d n x y sg s m l w hH hp hd hi hs, fun w hH => (shr_all a b c d n x y sg s m l w hH hp hd).mono fun _ _ h => h.1 hi⟩
  · have hp' : pvB a b c d l.length = false := by simpa using hp
    exact ⟨_, _, _, Nat.zero_le _, fun w hH => sh_no1 a b c d n x y sg s m l w hH hp', fun w hH => shr_no1 a b c d n x y sg s m l w hH hp'⟩
theorem us_both (a b c d n x y : Int) (sg : Bool) (s : Option Addr) (m : Nat) (l : List Int) :
    ∃ (R0 : Pl.R) (L0 : List Int) (E0 : Int), L0.length ≤ 1048576 ∧ (∀ w : World, HoldsI w s l → Calls Try.prog 38 #[.agg #[.int .i64 a, .int .i64 b, .int .i64 c, .int .i64 d, .slice s l.length m], .agg #[.int .i64 n, .bool sg, .int .i64 x, .int .i64 y]] w (GivesPlane R0 L0 E0 w)) ∧ (∀ w : World, HoldsI w s l → Calls Try.prog 39 #[.agg #[.int .i64 a, .int .i64 b, .int .i64 c, .int .i64 d, .slice s l.length m], .agg #[.int .i64 n, .bool sg, .int .i64 x, .int .i64 y]] w (GivesPlane R0 L0 E0 w)) := by
  by_cases hp : pvB a b c d l.length = true
  · cases hd : Co.dB n with
    | false => exact ⟨_, _, _, Nat.zero_le _, fun w hH => us_no2 a b c d n x y sg s m l w hH hp hd, fun w hH => usr_no2 a b c d n x y sg s m l w hH hp hd⟩
    | true => exact ⟨_, _, _, by rw [addL_len, clipL_len]; exact pv_le hp, fun w hH => us_yes a b c d n x y sg s m l w hH hp hd, fun w hH => usr_yes a b c d n x y sg s m l w hH hp hd⟩
  · have hp' : pvB a b c d l.length = false := by simpa using hp
    exact ⟨_, _, _, Nat.zero_le _, fun w hH => us_no1 a b c d n x y sg s m l w hH hp', fun w hH => usr_no1 a b c d n x y sg s m l w hH hp'⟩
end Go.Proofs.Ytadkcgpkbcgeoaa
