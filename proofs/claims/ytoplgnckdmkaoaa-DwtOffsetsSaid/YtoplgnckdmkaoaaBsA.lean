/-
  Layers 1 to 5, the base: Plain, RectA, RectB, RectC, Box, In of one piece.
-/
import Derived.RowKit
import Derived.IntWalk
import Derived.Test.YtoplgnckdmkaoaaRows
import Derived.WalkKit
import Derived.WalkSpells
import Derived.WalkLawsBesides
import Derived.Deep.QuietTactic
import Derived.BigQuiet
import Derived.Deep.RegionHeld3
import Derived.StillTailTactics
set_option maxRecDepth 100000
namespace Go.Proofs.Ytoplgnckdmkaoaa
namespace Pl
open Go.RowKit

/-- a / b rounded up, 0 if b < 1. -/
def cd (a b : Int) : Int := if b < 1 then 0 else if 0 < a.tmod b then a.tdiv b + 1 else a.tdiv b
/-- a / b rounded down, 0 if b < 1. -/
def fd (a b : Int) : Int := if b < 1 then 0 else if a.tmod b < 0 then a.tdiv b - 1 else a.tdiv b
def validB (a b c d : Int) : Bool := decide (0 ≤ a ∧ a ≤ c ∧ c ≤ 4096 ∧ 0 ≤ b ∧ b ≤ d ∧ d ≤ 4096)
def emptyB (a b c d : Int) : Bool := decide (c ≤ a ∨ d ≤ b)
def hasB (a b c d x y : Int) : Bool := decide (a ≤ x ∧ x < c ∧ b ≤ y ∧ y < d)
def areaI (a b c d : Int) : Int := if validB a b c d = true then (c - a) * (d - b) else 0
structure R where
  x0 : Int
  y0 : Int
  x1 : Int
  y1 : Int
def isec (a b c d a' b' c' d' : Int) : R :=
  if emptyB (max a a') (max b b') (min c c') (min d d') = true then ⟨0, 0, 0, 0⟩ else ⟨max a a', max b b', min c c', min d d'⟩
def contB (a b c d a' b' c' d' : Int) : Bool := emptyB a' b' c' d' || decide (a ≤ a' ∧ c' ≤ c ∧ b ≤ b' ∧ d' ≤ d)

theorem valid_iff {a b c d : Int} : validB a b c d = true ↔ (0 ≤ a ∧ a ≤ c ∧ c ≤ 4096 ∧ 0 ≤ b ∧ b ≤ d ∧ d ≤ 4096) := by simp [validB]
theorem empty_iff {a b c d : Int} : emptyB a b c d = true ↔ (c ≤ a ∨ d ≤ b) := by simp [emptyB]
theorem empty_not {a b c d : Int} : emptyB a b c d = false ↔ (a < c ∧ b < d) := by simp [emptyB]

def eqB (a b c d a' b' c' d' : Int) : Bool := decide (a = a' ∧ b = b' ∧ c = c' ∧ d = d')
theorem eq_iff {a b c d a' b' c' d' : Int} : eqB a b c d a' b' c' d' = true ↔ (a = a' ∧ b = b' ∧ c = c' ∧ d = d') := by simp [eqB]
theorem eq_self (a b c d : Int) : eqB a b c d a b c d = true := by simp [eqB]
def joinR (a b c d a' b' c' d' : Int) : R :=
  if emptyB a' b' c' d' = true then ⟨a, b, c, d⟩ else if eqB a b c d 0 0 0 0 = true then ⟨a', b', c', d'⟩ else ⟨min a a', min b b', max c c', max d d'⟩
theorem cont_eq {a b c d a' b' c' d' : Int} (h : emptyB a' b' c' d' = false) : eqB (isec a b c d a' b' c' d').x0 (isec a b c d a' b' c' d').y0 (isec a b c d a' b' c' d').x1 (isec a b c d a' b' c' d').y1 a' b' c' d' = true ↔ contB a b c d a' b' c' d' = true := by
  have h' := empty_not.1 h
  rw [eq_iff, contB, h, isec]
  by_cases he : emptyB (max a a') (max b b') (min c c') (min d d') = true
  · rw [if_pos he]
    have he' := empty_iff.1 he
    simp
    omega
  · rw [if_neg he]
    simp
    omega
def divB (d : Int) : Bool := decide (1 ≤ d ∧ d ≤ 4096)
theorem div_iff {d : Int} : divB d = true ↔ (1 ≤ d ∧ d ≤ 4096) := by simp [divB]
theorem div_not {d : Int} : divB d = false ↔ (d < 1 ∨ 4096 < d) := by simp [divB]; omega
def redR (a b c d dx dy : Int) : R :=
  if validB a b c d = true ∧ divB dx = true ∧ divB dy = true then ⟨cd a dx, cd b dy, cd c dx, cd d dy⟩ else ⟨0, 0, 0, 0⟩
theorem has_iff {a b c d x y : Int} : hasB a b c d x y = true ↔ (a ≤ x ∧ x < c ∧ b ≤ y ∧ y < d) := by simp [hasB]
theorem cont_iff {a b c d a' b' c' d' : Int} : contB a b c d a' b' c' d' = true ↔ ((c' ≤ a' ∨ d' ≤ b') ∨ (a ≤ a' ∧ c' ≤ c ∧ b ≤ b' ∧ d' ≤ d)) := by simp [contB, emptyB]
theorem tmod_pos {a b : Int} (_hb : 1 ≤ b) (h : 0 < a.tmod b) : 0 ≤ a := by
  refine Classical.byContradiction fun hn => ?_
  have := Int.tmod_nonneg (a := -a) b (by omega)
  rw [Int.neg_tmod] at this
  omega
theorem tmod_neg {a b : Int} (_hb : 1 ≤ b) (h : a.tmod b < 0) : a < 0 := by
  refine Classical.byContradiction fun hn => ?_
  have := Int.tmod_nonneg (a := a) b (by omega)
  omega
theorem div_lt {a b : Int} (hb : 1 ≤ b) (h0 : 0 ≤ a) (h : 0 < a % b) : 0 ≤ a / b ∧ a / b + 1 ≤ a := by
  have h1 := Int.mul_ediv_add_emod a b
  have h2 : 0 ≤ a / b := Int.ediv_nonneg h0 (by omega)
  have h3 : 1 * (a / b) ≤ b * (a / b) := Int.mul_le_mul_of_nonneg_right hb h2
  exact ⟨h2, by omega⟩
theorem cd_wrap {a b : Int} (hb : 1 ≤ b) (h0 : -9223372036854775808 ≤ a) (h1 : a ≤ 9223372036854775807) (h : 0 < a.tmod b) : wrap64 (a.tdiv b + 1) = a.tdiv b + 1 := by
  have ha := tmod_pos hb h
  rw [Int.tmod_eq_emod_of_nonneg ha] at h
  have hd := div_lt hb ha h
  rw [Int.tdiv_eq_ediv_of_nonneg ha]
  exact IntWalk.wrap64_in _ ⟨by omega, by omega⟩
theorem fd_wrap {a b : Int} (hb : 1 ≤ b) (h0 : -9223372036854775808 ≤ a) (h1 : a ≤ 9223372036854775807) (h : a.tmod b < 0) : wrap64 (a.tdiv b - 1) = a.tdiv b - 1 := by
  have ha := tmod_neg hb h
  have h' : 0 < (-a).tmod b := by rw [Int.neg_tmod]; omega
  have e : (-a).tdiv b = -(a.tdiv b) := Int.neg_tdiv _ _
  rw [Int.tmod_eq_emod_of_nonneg (by omega)] at h'
  have hd := div_lt hb (by omega) h'
  rw [Int.tdiv_eq_ediv_of_nonneg (by omega)] at e
  exact IntWalk.wrap64_in _ ⟨by omega, by omega⟩
theorem area_bd {a b c d : Int} (h : validB a b c d = true) : 0 ≤ (c - a) * (d - b) ∧ (c - a) * (d - b) ≤ 16777216 := by
  obtain ⟨h1, h2, h3, h4, h5, h6⟩ := valid_iff.1 h
  refine ⟨Int.mul_nonneg (by omega) (by omega), ?_⟩
  exact Int.le_trans (Int.mul_le_mul_of_nonneg_right (c := d - b) (show c - a ≤ 4096 by omega) (by omega)) (by omega)
theorem area_wrap {a b c d : Int} (h : validB a b c d = true) : wrap64 ((c - a) * (d - b)) = areaI a b c d := by
  rw [areaI, if_pos h]
  have := area_bd h
  exact IntWalk.wrap64_in _ ⟨by omega, by omega⟩

end Pl
end Go.Proofs.Ytoplgnckdmkaoaa

namespace Go.Proofs.Ytoplgnckdmkaoaa
open Go.RowKit

theorem bcell {W w1 : World} (hb : Below W.heap.size W w1) : (∀ b o, b < W.heap.size → w1.cell? ⟨b, o, none⟩ = W.cell? ⟨b, o, none⟩) ∧ (∀ b o, b < W.heap.size → w1.frozen? ⟨b, o, none⟩ = W.frozen? ⟨b, o, none⟩) :=
  ⟨fun b o h => hb.cell (p := ⟨b, o, none⟩) h, fun b o h => hb.frozen (p := ⟨b, o, none⟩) h⟩

theorem ret_bool {p q : Bool} (h : p = true ↔ q = true) : Ending.returned (.bool p) = .returned (.bool q) := by rw [Bool.eq_iff_iff.2 h]
theorem ret_int {a b : Int} (h : a = b) : Ending.returned (.int .i64 a) = .returned (.int .i64 b) := by rw [h]

set_option maxHeartbeats 400000 in
theorem empty_c (a b c d : Int) (w : World) :
    Calls Try.prog 91 #[.agg #[.int .i64 a, .int .i64 b, .int .i64 c, .int .i64 d]] w fun e w' => e = .returned (.bool (Pl.emptyB a b c d)) ∧ Below w.heap.size w w' := by
  go_enter Try.func91, Try.ntmps91
  go_wp2
  all_goals
    go_ret
    exact ⟨ret_bool (by simp [Pl.emptyB]; try omega), (Below.refl _ _).alloc (Nat.le_refl _) _⟩
set_option maxHeartbeats 400000 in
theorem valid_c (a b c d : Int) (w : World) :
    Calls Try.prog 90 #[.agg #[.int .i64 a, .int .i64 b, .int .i64 c, .int .i64 d]] w fun e w' => e = .returned (.bool (Pl.validB a b c d)) ∧ Below w.heap.size w w' := by
  go_enter Try.func90, Try.ntmps90
  go_wp2
  all_goals
    go_ret
    exact ⟨ret_bool (by simp [Pl.validB]; try omega), (Below.refl _ _).alloc (Nat.le_refl _) _⟩
set_option maxHeartbeats 400000 in
theorem has_c (a b c d x y : Int) (w : World) :
    Calls Try.prog 104 #[.agg #[.int .i64 a, .int .i64 b, .int .i64 c, .int .i64 d], .agg #[.int .i64 x, .int .i64 y]] w fun e w' => e = .returned (.bool (Pl.hasB a b c d x y)) ∧ Below w.heap.size w w' := by
  go_enter Try.func104, Try.ntmps104
  go_wp2
  all_goals
    go_ret
    exact ⟨ret_bool (by simp [Pl.hasB]; try omega), ((Below.refl _ _).alloc (Nat.le_refl _) _).alloc (by simp) _⟩
set_option maxHeartbeats 400000 in
theorem cd_c (a b : Int) (w : World) (h0 : -9223372036854775808 ≤ a) (h1 : a ≤ 9223372036854775807) :
    Calls Try.prog 81 #[.int .i64 a, .int .i64 b] w fun e w' => e = .returned (.int .i64 (Pl.cd a b)) ∧ w = w' := by
  go_enter Try.func81, Try.ntmps81
  by_cases hb : b < 1
  · go_wp2
    go_ret
    exact ⟨ret_int (by simp [Pl.cd, hb]), rfl⟩
  · by_cases hm : 0 < a.tmod b
    · have H : Hid _ := Pl.cd_wrap (by omega) h0 h1 hm
      go_wp2
      go_ret
      exact ⟨ret_int (by rw [Pl.cd, if_neg (Int.not_lt.2 hb), if_pos hm]; exact H.out), rfl⟩
    · go_wp2
      go_ret
      exact ⟨ret_int (by rw [Pl.cd, if_neg (Int.not_lt.2 hb), if_neg (Int.not_lt.2 hm)]), rfl⟩
set_option maxHeartbeats 400000 in
theorem fd_c (a b : Int) (w : World) (h0 : -9223372036854775808 ≤ a) (h1 : a ≤ 9223372036854775807) :
    Calls Try.prog 120 #[.int .i64 a, .int .i64 b] w fun e w' => e = .returned (.int .i64 (Pl.fd a b)) ∧ w = w' := by
  go_enter Try.func120, Try.ntmps120
  by_cases hb : b < 1
  · go_wp2
    go_ret
    exact ⟨ret_int (by simp [Pl.fd, hb]), rfl⟩
  · by_cases hm : a.tmod b < 0
    · have H : Hid _ := Pl.fd_wrap (by omega) h0 h1 hm
      go_wp2
      go_ret
      exact ⟨ret_int (by rw [Pl.fd, if_neg (Int.not_lt.2 hb), if_pos hm]; exact H.out), rfl⟩
    · go_wp2
      go_ret
      exact ⟨ret_int (by rw [Pl.fd, if_neg (Int.not_lt.2 hb), if_neg (Int.not_lt.2 hm)]), rfl⟩
set_option maxHeartbeats 400000 in
theorem area_c (a b c d : Int) (w : World) :
    Calls Try.prog 106 #[.agg #[.int .i64 a, .int .i64 b, .int .i64 c, .int .i64 d]] w fun e w' => e = .returned (.int .i64 (Pl.areaI a b c d)) ∧ Below w.heap.size w w' := by
  go_enter Try.func106, Try.ntmps106
  by_cases hv : Pl.validB a b c d = true
  · have H : Hid _ := Pl.area_wrap hv
    obtain ⟨v1, v2, v3, v4, v5, v6⟩ := Pl.valid_iff.1 hv
    go_wp2_with fail
    refine (valid_c _ _ _ _ _).mono ?_
    rintro e w1 ⟨rfl, hb⟩
    obtain ⟨hc, hf⟩ := bcell hb
    go_wp2
    go_ret
    exact ⟨ret_int H.out, ((Below.refl _ _).alloc (Nat.le_refl _) _).trans (hb.mono (by simp))⟩
  · have hv' : Pl.validB a b c d = false := by simpa using hv
    go_wp2_with fail
    refine (valid_c _ _ _ _ _).mono ?_
    rintro e w1 ⟨rfl, hb⟩
    go_wp2
    go_ret
    exact ⟨ret_int (by simp [Pl.areaI, hv']), ((Below.refl _ _).alloc (Nat.le_refl _) _).trans (hb.mono (by simp))⟩
set_option maxHeartbeats 400000 in
theorem empty_r (a b c d : Int) (w : World) :
    Calls Try.prog 58 #[.agg #[.int .i64 a, .int .i64 b, .int .i64 c, .int .i64 d]] w fun e w' => e = .returned (.bool (Pl.emptyB a b c d)) ∧ Below w.heap.size w w' := by
  go_enter Try.func58, Try.ntmps58
  go_wp2
  all_goals
    go_ret
    exact ⟨ret_bool (by simp [Pl.emptyB]; try omega), (Below.refl _ _).alloc (Nat.le_refl _) _⟩
set_option maxHeartbeats 400000 in
theorem valid_r (a b c d : Int) (w : World) :
    Calls Try.prog 55 #[.agg #[.int .i64 a, .int .i64 b, .int .i64 c, .int .i64 d]] w fun e w' => e = .returned (.bool (Pl.validB a b c d)) ∧ Below w.heap.size w w' := by
  go_enter Try.func55, Try.ntmps55
  go_wp2
  all_goals
    go_ret
    exact ⟨ret_bool (by simp [Pl.validB]; try omega), (Below.refl _ _).alloc (Nat.le_refl _) _⟩
set_option maxHeartbeats 400000 in
theorem cd_r (a b : Int) (w : World) (h0 : -9223372036854775808 ≤ a) (h1 : a ≤ 9223372036854775807) :
    Calls Try.prog 140 #[.int .i64 a, .int .i64 b] w fun e w' => e = .returned (.int .i64 (Pl.cd a b)) ∧ w = w' := by
  go_enter Try.func140, Try.ntmps140
  by_cases hb : b < 1
  · go_wp2
    go_ret
    exact ⟨ret_int (by simp [Pl.cd, hb]), rfl⟩
  · by_cases hm : 0 < a.tmod b
    · have H : Hid _ := Pl.cd_wrap (by omega) h0 h1 hm
      go_wp2
      go_ret
      exact ⟨ret_int (by rw [Pl.cd, if_neg (Int.not_lt.2 hb), if_pos hm]; exact H.out), rfl⟩
    · go_wp2
      go_ret
      exact ⟨ret_int (by rw [Pl.cd, if_neg (Int.not_lt.2 hb), if_neg (Int.not_lt.2 hm)]), rfl⟩
set_option maxHeartbeats 400000 in
theorem area_r (a b c d : Int) (w : World) :
    Calls Try.prog 68 #[.agg #[.int .i64 a, .int .i64 b, .int .i64 c, .int .i64 d]] w fun e w' => e = .returned (.int .i64 (Pl.areaI a b c d)) ∧ Below w.heap.size w w' := by
  go_enter Try.func68, Try.ntmps68
  by_cases hv : Pl.validB a b c d = true
  · have H : Hid _ := Pl.area_wrap hv
    obtain ⟨v1, v2, v3, v4, v5, v6⟩ := Pl.valid_iff.1 hv
    go_wp2_with fail
    refine (valid_r _ _ _ _ _).mono ?_
    rintro e w1 ⟨rfl, hb⟩
    obtain ⟨hc, hf⟩ := bcell hb
    go_wp2
    go_ret
    exact ⟨ret_int H.out, ((Below.refl _ _).alloc (Nat.le_refl _) _).trans (hb.mono (by simp))⟩
  · have hv' : Pl.validB a b c d = false := by simpa using hv
    go_wp2_with fail
    refine (valid_r _ _ _ _ _).mono ?_
    rintro e w1 ⟨rfl, hb⟩
    go_wp2
    go_ret
    exact ⟨ret_int (by simp [Pl.areaI, hv']), ((Below.refl _ _).alloc (Nat.le_refl _) _).trans (hb.mono (by simp))⟩
end Go.Proofs.Ytoplgnckdmkaoaa

namespace Go.Proofs.Ytoplgnckdmkaoaa
open Go.RowKit

theorem hmx (x y : Int) : (if x < y then y else x) = max x y := by split <;> omega
theorem hmn (x y : Int) : (if y < x then y else x) = min x y := by split <;> omega
theorem bcall {B : Nat} {a W w1 : World} (h : Below B a W) (hb : Below W.heap.size W w1) (hB : B ≤ W.heap.size) : Below B a w1 := h.trans (hb.mono hB)

theorem fieldsR : (Try.prog.fieldsOf 23).toList = [⟨"X0", 3, 0, false, "", "", 0⟩, ⟨"Y0", 3, 1, false, "", "", 8⟩, ⟨"X1", 3, 2, false, "", "", 16⟩, ⟨"Y1", 3, 3, false, "", "", 24⟩] := by kernel_rfl
theorem eqR (a b c d a' b' c' d' : Int) (w : World) : (Op.equalIn 10000 23 (.agg #[.int .i64 a, .int .i64 b, .int .i64 c, .int .i64 d]) (.agg #[.int .i64 a', .int .i64 b', .int .i64 c', .int .i64 d'])).run Try.prog w = .ok (Pl.eqB a b c d a' b' c' d') w := by
  have hu : Try.prog.underlying 23 = some (.struct (Try.prog.fieldsOf 23)) := by kernel_rfl
  have hp : Try.prog.stoodInHeld 23 = false := by kernel_rfl
  have h3 : Try.prog.underlying 3 = some (.int .i64) := by kernel_rfl
  have he := fun (x y : Int) => run_equalIn_int (P := Try.prog) w 9998 3 .i64 .i64 x y h3
  rw [run_equalIn_struct _ _ _ _ _ hu hp, fieldsR]
  simp only [Op.eqFields, part]
  simp [he, Pl.eqB]
  repeat' split
  all_goals simp_all

set_option maxHeartbeats 400000 in
theorem isec_c (a b c d a' b' c' d' : Int) (w : World) :
    Calls Try.prog 45 #[.agg #[.int .i64 a, .int .i64 b, .int .i64 c, .int .i64 d], .agg #[.int .i64 a', .int .i64 b', .int .i64 c', .int .i64 d']] w fun e w' => e = .returned (.agg #[.int .i64 (Pl.isec a b c d a' b' c' d').x0, .int .i64 (Pl.isec a b c d a' b' c' d').y0, .int .i64 (Pl.isec a b c d a' b' c' d').x1, .int .i64 (Pl.isec a b c d a' b' c' d').y1]) ∧ Below w.heap.size w w' := by
  have hmx := hmx
  have hmn := hmn
  go_enter Try.func45, Try.ntmps45
  go_wp2_with fail
  refine (empty_c _ _ _ _ _).mono ?_
  rintro e w1 ⟨rfl, hb⟩
  obtain ⟨hc, hf⟩ := bcell hb
  have hz := hb.size
  simp at hz
  have hw : Below w.heap.size w w1 := bcall (by (repeat (first | exact Below.refl _ _ | (refine Below.setCell ?_ (by simp <;> omega) _) | (refine Below.alloc ?_ (by simp <;> omega) _)))) hb (by simp <;> omega)
  by_cases he : Pl.emptyB (max a a') (max b b') (min c c') (min d d') = true
  · go_wp2
    refine bodyPost_ret (v := .agg #[.int .i64 0, .int .i64 0, .int .i64 0, .int .i64 0]) (by simp [results, Try.results45, go_sem, hc, Nat.lt_of_succ_le]) rfl ⟨by simp [Pl.isec, he], ?_⟩
    (repeat (first | exact hw | (refine Below.setCell ?_ (by simp <;> omega) _) | (refine Below.alloc ?_ (by simp <;> omega) _)))
  · have he' : Pl.emptyB (max a a') (max b b') (min c c') (min d d') = false := by simpa using he
    go_wp2
    refine bodyPost_ret (v := .agg #[.int .i64 (max a a'), .int .i64 (max b b'), .int .i64 (min c c'), .int .i64 (min d d')]) (by simp [results, Try.results45, go_sem, hc, Nat.lt_of_succ_le]) rfl ⟨by simp [Pl.isec, he'], ?_⟩
    (repeat (first | exact hw | (refine Below.setCell ?_ (by simp <;> omega) _) | (refine Below.alloc ?_ (by simp <;> omega) _)))
set_option maxHeartbeats 400000 in
theorem isec_r (a b c d a' b' c' d' : Int) (w : World) :
    Calls Try.prog 57 #[.agg #[.int .i64 a, .int .i64 b, .int .i64 c, .int .i64 d], .agg #[.int .i64 a', .int .i64 b', .int .i64 c', .int .i64 d']] w fun e w' => e = .returned (.agg #[.int .i64 (Pl.isec a b c d a' b' c' d').x0, .int .i64 (Pl.isec a b c d a' b' c' d').y0, .int .i64 (Pl.isec a b c d a' b' c' d').x1, .int .i64 (Pl.isec a b c d a' b' c' d').y1]) ∧ Below w.heap.size w w' := by
  have hmx := hmx
  have hmn := hmn
  go_enter Try.func57, Try.ntmps57
  go_wp2_with fail
  refine (empty_r _ _ _ _ _).mono ?_
  rintro e w1 ⟨rfl, hb⟩
  obtain ⟨hc, hf⟩ := bcell hb
  have hz := hb.size
  simp at hz
  have hw : Below w.heap.size w w1 := bcall (by (repeat (first | exact Below.refl _ _ | (refine Below.setCell ?_ (by simp <;> omega) _) | (refine Below.alloc ?_ (by simp <;> omega) _)))) hb (by simp <;> omega)
  by_cases he : Pl.emptyB (max a a') (max b b') (min c c') (min d d') = true
  · go_wp2
    refine bodyPost_ret (v := .agg #[.int .i64 0, .int .i64 0, .int .i64 0, .int .i64 0]) (by simp [results, Try.results57, go_sem, hc, Nat.lt_of_succ_le]) rfl ⟨by simp [Pl.isec, he], ?_⟩
    (repeat (first | exact hw | (refine Below.setCell ?_ (by simp <;> omega) _) | (refine Below.alloc ?_ (by simp <;> omega) _)))
  · have he' : Pl.emptyB (max a a') (max b b') (min c c') (min d d') = false := by simpa using he
    go_wp2
    refine bodyPost_ret (v := .agg #[.int .i64 (max a a'), .int .i64 (max b b'), .int .i64 (min c c'), .int .i64 (min d d')]) (by simp [results, Try.results57, go_sem, hc, Nat.lt_of_succ_le]) rfl ⟨by simp [Pl.isec, he'], ?_⟩
    (repeat (first | exact hw | (refine Below.setCell ?_ (by simp <;> omega) _) | (refine Below.alloc ?_ (by simp <;> omega) _)))
theorem two_call {w W w1 : World} {x0 x1 x2 x3 y0 y1 y2 y3 : Value} (h : W.cell? ⟨w.heap.size, 0, none⟩ = some (x0) ∧ W.cell? ⟨w.heap.size, 1, none⟩ = some (x1) ∧ W.cell? ⟨w.heap.size, 2, none⟩ = some (x2) ∧ W.cell? ⟨w.heap.size, 3, none⟩ = some (x3) ∧ W.cell? ⟨w.heap.size + 1, 0, none⟩ = some (y0) ∧ W.cell? ⟨w.heap.size + 1, 1, none⟩ = some (y1) ∧ W.cell? ⟨w.heap.size + 1, 2, none⟩ = some (y2) ∧ W.cell? ⟨w.heap.size + 1, 3, none⟩ = some (y3) ∧ Below w.heap.size w W ∧ w.heap.size + 1 < W.heap.size) (hb : Below W.heap.size W w1) :
    w1.cell? ⟨w.heap.size, 0, none⟩ = some (x0) ∧ w1.cell? ⟨w.heap.size, 1, none⟩ = some (x1) ∧ w1.cell? ⟨w.heap.size, 2, none⟩ = some (x2) ∧ w1.cell? ⟨w.heap.size, 3, none⟩ = some (x3) ∧ w1.cell? ⟨w.heap.size + 1, 0, none⟩ = some (y0) ∧ w1.cell? ⟨w.heap.size + 1, 1, none⟩ = some (y1) ∧ w1.cell? ⟨w.heap.size + 1, 2, none⟩ = some (y2) ∧ w1.cell? ⟨w.heap.size + 1, 3, none⟩ = some (y3) ∧ Below w.heap.size w w1 ∧ w.heap.size + 1 < w1.heap.size := by
  obtain ⟨h0, h1, h2, h3, h4, h5, h6, h7, hB, hz⟩ := h
  obtain ⟨hc, hf⟩ := bcell hb
  have hs := hb.size
  refine ⟨(hc _ _ (by omega)).trans h0, (hc _ _ (by omega)).trans h1, (hc _ _ (by omega)).trans h2, (hc _ _ (by omega)).trans h3, (hc _ _ (by omega)).trans h4, (hc _ _ (by omega)).trans h5, (hc _ _ (by omega)).trans h6, (hc _ _ (by omega)).trans h7, bcall hB hb (by omega), by omega⟩
set_option maxHeartbeats 400000 in
theorem cont_c (a b c d a' b' c' d' : Int) (w : World) :
    Calls Try.prog 105 #[.agg #[.int .i64 a, .int .i64 b, .int .i64 c, .int .i64 d], .agg #[.int .i64 a', .int .i64 b', .int .i64 c', .int .i64 d']] w fun e w' => e = .returned (.bool (Pl.contB a b c d a' b' c' d')) ∧ Below w.heap.size w w' := by
  by_cases he : Pl.emptyB a' b' c' d' = true
  · go_enter Try.func105, Try.ntmps105
    go_wp2_with fail
    go_region_with (first | (go_at_call 91; refine (empty_c _ _ _ _ _).mono ?_; rintro e w1 ⟨rfl, hb⟩))
    all_goals
      go_wp2
      go_ret
      exact ⟨ret_bool (by simp [Pl.contB, he]), bcall (by (repeat (first | exact Below.refl _ _ | (refine Below.drew ?_) | (refine Below.setCell ?_ (by simp <;> omega) _) | (refine Below.alloc ?_ (by simp <;> omega) _)))) hb (by simp <;> omega)⟩
  · have he' : Pl.emptyB a' b' c' d' = false := by simpa using he
    have heq := eqR
    go_enter Try.func105, Try.ntmps105
    go_wp2_with fail
    go_region_held3 (fun w' => w'.cell? ⟨w.heap.size, 0, none⟩ = some (.int .i64 a) ∧ w'.cell? ⟨w.heap.size, 1, none⟩ = some (.int .i64 b) ∧ w'.cell? ⟨w.heap.size, 2, none⟩ = some (.int .i64 c) ∧ w'.cell? ⟨w.heap.size, 3, none⟩ = some (.int .i64 d) ∧ w'.cell? ⟨w.heap.size + 1, 0, none⟩ = some (.int .i64 a') ∧ w'.cell? ⟨w.heap.size + 1, 1, none⟩ = some (.int .i64 b') ∧ w'.cell? ⟨w.heap.size + 1, 2, none⟩ = some (.int .i64 c') ∧ w'.cell? ⟨w.heap.size + 1, 3, none⟩ = some (.int .i64 d') ∧ Below w.heap.size w w' ∧ w.heap.size + 1 < w'.heap.size)
      (first | assumption | (refine ⟨?_, ?_, ?_, ?_, ?_, ?_, ?_, ?_, ?_, ?_⟩ <;> first | (simp; done) | (repeat (first | exact Below.refl _ _ | (refine Below.drew ?_) | (refine Below.setCell ?_ (by simp <;> omega) _) | (refine Below.alloc ?_ (by simp <;> omega) _)))))
      (first
      | (go_at_call 91; refine (empty_c _ _ _ _ _).mono ?_; rintro e w1 ⟨rfl, hb⟩; have hS1 := two_call (by assumption) hb)
      | (go_at_call 45; refine (isec_c _ _ _ _ _ _ _ _ _).mono ?_; rintro e w2 ⟨rfl, hb2⟩; have hS2 := two_call (by assumption) hb2))
    have hS := (by assumption : w2.cell? ⟨w.heap.size, 0, none⟩ = some (.int .i64 a) ∧ w2.cell? ⟨w.heap.size, 1, none⟩ = some (.int .i64 b) ∧ w2.cell? ⟨w.heap.size, 2, none⟩ = some (.int .i64 c) ∧ w2.cell? ⟨w.heap.size, 3, none⟩ = some (.int .i64 d) ∧ w2.cell? ⟨w.heap.size + 1, 0, none⟩ = some (.int .i64 a') ∧ w2.cell? ⟨w.heap.size + 1, 1, none⟩ = some (.int .i64 b') ∧ w2.cell? ⟨w.heap.size + 1, 2, none⟩ = some (.int .i64 c') ∧ w2.cell? ⟨w.heap.size + 1, 3, none⟩ = some (.int .i64 d') ∧ Below w.heap.size w w2 ∧ w.heap.size + 1 < w2.heap.size)
    go_wp2
    go_ret
    exact ⟨ret_bool (Pl.cont_eq he'), hS.2.2.2.2.2.2.2.2.1⟩
end Go.Proofs.Ytoplgnckdmkaoaa

namespace Go.Proofs.Ytoplgnckdmkaoaa
open Go.RowKit

set_option maxHeartbeats 400000 in
theorem divisor_c (d : Int) (w : World) :
    Calls Try.prog 139 #[.int .i64 d] w fun e w' => e = .returned (.bool (Pl.divB d)) ∧ w = w' := by
  go_enter Try.func139, Try.ntmps139
  go_wp2
  all_goals
    go_ret
    exact ⟨ret_bool (by simp [Pl.divB]; try omega), rfl⟩
theorem cd_cs (a b : Int) (w : World) (h0 : -9223372036854775808 ≤ a) (h1 : a ≤ 9223372036854775807) :
    Calls Try.prog 81 #[.int .i64 a, .int .i64 b] w fun e w' => e = .returned (.int .i64 (Pl.cd a b)) ∧ w' = w := (cd_c a b w h0 h1).mono fun _ _ h => ⟨h.1, h.2.symm⟩
theorem fd_cs (a b : Int) (w : World) (h0 : -9223372036854775808 ≤ a) (h1 : a ≤ 9223372036854775807) :
    Calls Try.prog 120 #[.int .i64 a, .int .i64 b] w fun e w' => e = .returned (.int .i64 (Pl.fd a b)) ∧ w' = w := (fd_c a b w h0 h1).mono fun _ _ h => ⟨h.1, h.2.symm⟩
set_option maxHeartbeats 1000000 in
theorem red_c (a b c d dx dy : Int) (w : World) :
    Calls Try.prog 84 #[.agg #[.int .i64 a, .int .i64 b, .int .i64 c, .int .i64 d], .int .i64 dx, .int .i64 dy] w fun e w' => e = .returned (.agg #[.int .i64 (Pl.redR a b c d dx dy).x0, .int .i64 (Pl.redR a b c d dx dy).y0, .int .i64 (Pl.redR a b c d dx dy).x1, .int .i64 (Pl.redR a b c d dx dy).y1]) ∧ Below w.heap.size w w' := by
  by_cases hv : Pl.validB a b c d = true
  · obtain ⟨v1, v2, v3, v4, v5, v6⟩ := Pl.valid_iff.1 hv
    by_cases h1 : Pl.divB dx = true
    · by_cases h2 : Pl.divB dy = true
      · obtain ⟨x1, x2⟩ := Pl.div_iff.1 h1
        obtain ⟨y1, y2⟩ := Pl.div_iff.1 h2
        go_enter Try.func84, Try.ntmps84
        go_wp2_with fail
        refine (valid_c _ _ _ _ _).mono ?_
        rintro e w1 ⟨rfl, hb⟩
        obtain ⟨hc, hf⟩ := bcell hb
        have hz := hb.size
        simp at hz
        have hw : Below w.heap.size w w1 := bcall (by (repeat (first | exact Below.refl _ _ | (refine Below.drew ?_) | (refine Below.setCell ?_ (by simp <;> omega) _) | (refine Below.alloc ?_ (by simp <;> omega) _)))) hb (by simp <;> omega)
        go_wp2_with (first | (go_at_call 139; refine (divisor_c _ _).mono ?_; rintro e w2 ⟨rfl, rfl⟩))
        have k0 : w1.cell? ⟨w.heap.size, 0, none⟩ = some (.int .i64 a) := (hc _ _ (by simp <;> omega)).trans (by simp)
        have k1 : w1.cell? ⟨w.heap.size, 1, none⟩ = some (.int .i64 b) := (hc _ _ (by simp <;> omega)).trans (by simp)
        have k2 : w1.cell? ⟨w.heap.size, 2, none⟩ = some (.int .i64 c) := (hc _ _ (by simp <;> omega)).trans (by simp)
        have k3 : w1.cell? ⟨w.heap.size, 3, none⟩ = some (.int .i64 d) := (hc _ _ (by simp <;> omega)).trans (by simp)
        refine wp_region_still_tail 17 (by kernel_rfl) (by kernel_rfl) ?_
        simp only [List.take_succ_cons, List.take_zero, List.drop_succ_cons, List.drop_zero]
        repeat (first | still_step | still_call (cd_cs _ _ _ (by omega) (by omega)))
        refine wpStill_nil ?_
        clear k0 k1 k2 k3
        go_wp2
        refine bodyPost_ret (v := .agg #[.int .i64 (Pl.redR a b c d dx dy).x0, .int .i64 (Pl.redR a b c d dx dy).y0, .int .i64 (Pl.redR a b c d dx dy).x1, .int .i64 (Pl.redR a b c d dx dy).y1]) (by simp [results, Try.results84, go_sem, hc, Nat.lt_of_succ_le, Pl.redR, hv, h1, h2]) rfl ⟨rfl, ?_⟩
        (repeat (first | exact hw | (refine Below.drew ?_) | (refine Below.setCell ?_ (by simp <;> omega) _) | (refine Below.alloc ?_ (by simp <;> omega) _)))
      · have h2' : Pl.divB dy = false := by simpa using h2
        go_enter Try.func84, Try.ntmps84
        go_wp2_with fail
        refine (valid_c _ _ _ _ _).mono ?_
        rintro e w1 ⟨rfl, hb⟩
        obtain ⟨hc, hf⟩ := bcell hb
        have hz := hb.size
        simp at hz
        have hw : Below w.heap.size w w1 := bcall (by (repeat (first | exact Below.refl _ _ | (refine Below.drew ?_) | (refine Below.setCell ?_ (by simp <;> omega) _) | (refine Below.alloc ?_ (by simp <;> omega) _)))) hb (by simp <;> omega)
        go_wp2_with (first | (go_at_call 139; refine (divisor_c _ _).mono ?_; rintro e w2 ⟨rfl, rfl⟩))
        all_goals
          refine bodyPost_ret (v := .agg #[.int .i64 0, .int .i64 0, .int .i64 0, .int .i64 0]) (by simp [results, Try.results84, go_sem, hc, Nat.lt_of_succ_le]) rfl ⟨by simp [Pl.redR, hv, h1, h2'], ?_⟩
          (repeat (first | exact hw | (refine Below.drew ?_) | (refine Below.setCell ?_ (by simp <;> omega) _) | (refine Below.alloc ?_ (by simp <;> omega) _)))
    · have h1' : Pl.divB dx = false := by simpa using h1
      go_enter Try.func84, Try.ntmps84
      go_wp2_with fail
      refine (valid_c _ _ _ _ _).mono ?_
      rintro e w1 ⟨rfl, hb⟩
      obtain ⟨hc, hf⟩ := bcell hb
      have hz := hb.size
      simp at hz
      have hw : Below w.heap.size w w1 := bcall (by (repeat (first | exact Below.refl _ _ | (refine Below.drew ?_) | (refine Below.setCell ?_ (by simp <;> omega) _) | (refine Below.alloc ?_ (by simp <;> omega) _)))) hb (by simp <;> omega)
      go_wp2_with (first | (go_at_call 139; refine (divisor_c _ _).mono ?_; rintro e w2 ⟨rfl, rfl⟩))
      all_goals
        refine bodyPost_ret (v := .agg #[.int .i64 0, .int .i64 0, .int .i64 0, .int .i64 0]) (by simp [results, Try.results84, go_sem, hc, Nat.lt_of_succ_le]) rfl ⟨by simp [Pl.redR, hv, h1'], ?_⟩
        (repeat (first | exact hw | (refine Below.drew ?_) | (refine Below.setCell ?_ (by simp <;> omega) _) | (refine Below.alloc ?_ (by simp <;> omega) _)))
  · have hv' : Pl.validB a b c d = false := by simpa using hv
    go_enter Try.func84, Try.ntmps84
    go_wp2_with fail
    refine (valid_c _ _ _ _ _).mono ?_
    rintro e w1 ⟨rfl, hb⟩
    obtain ⟨hc, hf⟩ := bcell hb
    have hz := hb.size
    simp at hz
    have hw : Below w.heap.size w w1 := bcall (by (repeat (first | exact Below.refl _ _ | (refine Below.drew ?_) | (refine Below.setCell ?_ (by simp <;> omega) _) | (refine Below.alloc ?_ (by simp <;> omega) _)))) hb (by simp <;> omega)
    go_wp2
    all_goals
      refine bodyPost_ret (v := .agg #[.int .i64 0, .int .i64 0, .int .i64 0, .int .i64 0]) (by simp [results, Try.results84, go_sem, hc, Nat.lt_of_succ_le]) rfl ⟨by simp [Pl.redR, hv'], ?_⟩
      (repeat (first | exact hw | (refine Below.drew ?_) | (refine Below.setCell ?_ (by simp <;> omega) _) | (refine Below.alloc ?_ (by simp <;> omega) _)))
theorem cd_rs (a b : Int) (w : World) (h0 : -9223372036854775808 ≤ a) (h1 : a ≤ 9223372036854775807) :
    Calls Try.prog 140 #[.int .i64 a, .int .i64 b] w fun e w' => e = .returned (.int .i64 (Pl.cd a b)) ∧ w' = w := (cd_r a b w h0 h1).mono fun _ _ h => ⟨h.1, h.2.symm⟩
set_option maxHeartbeats 1000000 in
theorem red_r (a b c d dx dy : Int) (w : World) :
    Calls Try.prog 85 #[.agg #[.int .i64 a, .int .i64 b, .int .i64 c, .int .i64 d], .int .i64 dx, .int .i64 dy] w fun e w' => e = .returned (.agg #[.int .i64 (Pl.redR a b c d dx dy).x0, .int .i64 (Pl.redR a b c d dx dy).y0, .int .i64 (Pl.redR a b c d dx dy).x1, .int .i64 (Pl.redR a b c d dx dy).y1]) ∧ Below w.heap.size w w' := by
  by_cases hv : Pl.validB a b c d = true
  · obtain ⟨v1, v2, v3, v4, v5, v6⟩ := Pl.valid_iff.1 hv
    by_cases h1 : Pl.divB dx = true
    · by_cases h2 : Pl.divB dy = true
      · obtain ⟨x1, x2⟩ := Pl.div_iff.1 h1
        obtain ⟨y1, y2⟩ := Pl.div_iff.1 h2
        go_enter Try.func85, Try.ntmps85
        go_wp2_with fail
        refine (valid_r _ _ _ _ _).mono ?_
        rintro e w1 ⟨rfl, hb⟩
        obtain ⟨hc, hf⟩ := bcell hb
        have hz := hb.size
        simp at hz
        have hw : Below w.heap.size w w1 := bcall (by (repeat (first | exact Below.refl _ _ | (refine Below.drew ?_) | (refine Below.setCell ?_ (by simp <;> omega) _) | (refine Below.alloc ?_ (by simp <;> omega) _)))) hb (by simp <;> omega)
        go_wp2_with fail
        have k0 : w1.cell? ⟨w.heap.size, 0, none⟩ = some (.int .i64 a) := (hc _ _ (by simp <;> omega)).trans (by simp)
        have k1 : w1.cell? ⟨w.heap.size, 1, none⟩ = some (.int .i64 b) := (hc _ _ (by simp <;> omega)).trans (by simp)
        have k2 : w1.cell? ⟨w.heap.size, 2, none⟩ = some (.int .i64 c) := (hc _ _ (by simp <;> omega)).trans (by simp)
        have k3 : w1.cell? ⟨w.heap.size, 3, none⟩ = some (.int .i64 d) := (hc _ _ (by simp <;> omega)).trans (by simp)
        refine wp_region_still_tail 17 (by kernel_rfl) (by kernel_rfl) ?_
        simp only [List.take_succ_cons, List.take_zero, List.drop_succ_cons, List.drop_zero]
        repeat (first | still_step | still_call (cd_rs _ _ _ (by omega) (by omega)))
        refine wpStill_nil ?_
        clear k0 k1 k2 k3
        go_wp2
        refine bodyPost_ret (v := .agg #[.int .i64 (Pl.redR a b c d dx dy).x0, .int .i64 (Pl.redR a b c d dx dy).y0, .int .i64 (Pl.redR a b c d dx dy).x1, .int .i64 (Pl.redR a b c d dx dy).y1]) (by simp [results, Try.results85, go_sem, hc, Nat.lt_of_succ_le, Pl.redR, hv, h1, h2]) rfl ⟨rfl, ?_⟩
        (repeat (first | exact hw | (refine Below.drew ?_) | (refine Below.setCell ?_ (by simp <;> omega) _) | (refine Below.alloc ?_ (by simp <;> omega) _)))
      · have h2' : Pl.divB dy = false := by simpa using h2
        obtain ⟨x1, x2⟩ := Pl.div_iff.1 h1
        rcases Pl.div_not.1 h2' with hd | hd
        all_goals
          go_enter Try.func85, Try.ntmps85
          go_wp2_with fail
          refine (valid_r _ _ _ _ _).mono ?_
          rintro e w1 ⟨rfl, hb⟩
          obtain ⟨hc, hf⟩ := bcell hb
          have hz := hb.size
          simp at hz
          have hw : Below w.heap.size w w1 := bcall (by (repeat (first | exact Below.refl _ _ | (refine Below.drew ?_) | (refine Below.setCell ?_ (by simp <;> omega) _) | (refine Below.alloc ?_ (by simp <;> omega) _)))) hb (by simp <;> omega)
          go_wp2
          all_goals
            refine bodyPost_ret (v := .agg #[.int .i64 0, .int .i64 0, .int .i64 0, .int .i64 0]) (by simp [results, Try.results85, go_sem, hc, Nat.lt_of_succ_le]) rfl ⟨by simp [Pl.redR, hv, h1, h2'], ?_⟩
            (repeat (first | exact hw | (refine Below.drew ?_) | (refine Below.setCell ?_ (by simp <;> omega) _) | (refine Below.alloc ?_ (by simp <;> omega) _)))
    · have h1' : Pl.divB dx = false := by simpa using h1
      rcases Pl.div_not.1 h1' with hd | hd
      all_goals
        go_enter Try.func85, Try.ntmps85
        go_wp2_with fail
        refine (valid_r _ _ _ _ _).mono ?_
        rintro e w1 ⟨rfl, hb⟩
        obtain ⟨hc, hf⟩ := bcell hb
        have hz := hb.size
        simp at hz
        have hw : Below w.heap.size w w1 := bcall (by (repeat (first | exact Below.refl _ _ | (refine Below.drew ?_) | (refine Below.setCell ?_ (by simp <;> omega) _) | (refine Below.alloc ?_ (by simp <;> omega) _)))) hb (by simp <;> omega)
        go_wp2
        all_goals
          refine bodyPost_ret (v := .agg #[.int .i64 0, .int .i64 0, .int .i64 0, .int .i64 0]) (by simp [results, Try.results85, go_sem, hc, Nat.lt_of_succ_le]) rfl ⟨by simp [Pl.redR, hv, h1'], ?_⟩
          (repeat (first | exact hw | (refine Below.drew ?_) | (refine Below.setCell ?_ (by simp <;> omega) _) | (refine Below.alloc ?_ (by simp <;> omega) _)))
  · have hv' : Pl.validB a b c d = false := by simpa using hv
    go_enter Try.func85, Try.ntmps85
    go_wp2_with fail
    refine (valid_r _ _ _ _ _).mono ?_
    rintro e w1 ⟨rfl, hb⟩
    obtain ⟨hc, hf⟩ := bcell hb
    have hz := hb.size
    simp at hz
    have hw : Below w.heap.size w w1 := bcall (by (repeat (first | exact Below.refl _ _ | (refine Below.drew ?_) | (refine Below.setCell ?_ (by simp <;> omega) _) | (refine Below.alloc ?_ (by simp <;> omega) _)))) hb (by simp <;> omega)
    go_wp2
    all_goals
      refine bodyPost_ret (v := .agg #[.int .i64 0, .int .i64 0, .int .i64 0, .int .i64 0]) (by simp [results, Try.results85, go_sem, hc, Nat.lt_of_succ_le]) rfl ⟨by simp [Pl.redR, hv'], ?_⟩
      (repeat (first | exact hw | (refine Below.drew ?_) | (refine Below.setCell ?_ (by simp <;> omega) _) | (refine Below.alloc ?_ (by simp <;> omega) _)))
end Go.Proofs.Ytoplgnckdmkaoaa

namespace Go.Proofs.Ytoplgnckdmkaoaa
open Go.RowKit

/-- The four cells of a rectangle at an address. -/
def RectAt (w : World) (b o : Nat) (r : Pl.R) : Prop :=
  w.cell? ⟨b, o, none⟩ = some (.int .i64 r.x0) ∧ w.cell? ⟨b, o + 1, none⟩ = some (.int .i64 r.y0) ∧ w.cell? ⟨b, o + 2, none⟩ = some (.int .i64 r.x1) ∧ w.cell? ⟨b, o + 3, none⟩ = some (.int .i64 r.y1)
/-- The rectangles of a list, one after the other. -/
def RectsAt (w : World) (b off : Nat) (l : List Pl.R) : Prop := ∀ k (_ : k < l.length), RectAt w b (off + k * 4) l[k]

theorem cell_alloc {w : World} {a : Addr} {v : Value} (h : w.cell? a = some v) (X : Obj) : (w.alloc X).cell? a = some v :=
  (World.cell?_alloc_some _ _ _ (by simp [h])).trans h
theorem cell_lt {w : World} {b o : Nat} {v : Value} (h : w.cell? ⟨b, o, none⟩ = some v) : b < w.heap.size := by
  refine Classical.byContradiction fun hn => ?_
  have : w.heap[b]? = none := by rw [Array.getElem?_eq_none_iff]; omega
  simp [World.cell?, this] at h
theorem cell_far {w : World} {a b : Addr} {v : Value} (u : Value) (h : w.cell? a = some v) (hn : a.block ≠ b.block) : (w.setCell b u).cell? a = some v := by
  rw [World.cell?_setCell_far]
  · exact h
  · exact fun e => hn e.symm
theorem RectAt.below {W w1 : World} {b o : Nat} {r : Pl.R} (h : RectAt W b o r) (hb : Below W.heap.size W w1) (hlt : b < W.heap.size) : RectAt w1 b o r :=
  ⟨(hb.cell (p := ⟨b, o, none⟩) hlt).trans h.1, (hb.cell (p := ⟨b, o + 1, none⟩) hlt).trans h.2.1, (hb.cell (p := ⟨b, o + 2, none⟩) hlt).trans h.2.2.1, (hb.cell (p := ⟨b, o + 3, none⟩) hlt).trans h.2.2.2⟩
theorem RectAt.alloc {W : World} {b o : Nat} {r : Pl.R} (h : RectAt W b o r) (X : Obj) : RectAt (W.alloc X) b o r :=
  ⟨cell_alloc h.1 X, cell_alloc h.2.1 X, cell_alloc h.2.2.1 X, cell_alloc h.2.2.2 X⟩
theorem RectAt.far {W : World} {b o : Nat} {r : Pl.R} (h : RectAt W b o r) (a : Addr) (v : Value) (hn : b ≠ a.block) : RectAt (W.setCell a v) b o r :=
  ⟨cell_far v h.1 hn, cell_far v h.2.1 hn, cell_far v h.2.2.1 hn, cell_far v h.2.2.2 hn⟩
theorem RectsAt.below {W w1 : World} {b B off : Nat} {l : List Pl.R} (h : RectsAt W b off l) (hb : Below B W w1) (hlt : b < B) : RectsAt w1 b off l := fun k hk => by
  obtain ⟨h0, h1, h2, h3⟩ := h k hk
  exact ⟨(hb.cell (p := ⟨b, _, none⟩) hlt).trans h0, (hb.cell (p := ⟨b, _, none⟩) hlt).trans h1, (hb.cell (p := ⟨b, _, none⟩) hlt).trans h2, (hb.cell (p := ⟨b, _, none⟩) hlt).trans h3⟩

/-- A block that holds one rectangle and can be written. -/
structure Box (w : World) (B : Nat) (r : Pl.R) : Prop where
  cells : RectAt w B 0 r
  free : ∀ j, w.frozen? ⟨B, j, none⟩ = false
  lt : B < w.heap.size

theorem Box.fresh (w : World) (a b c d : Int) (t : TypeId) : Box (w.alloc (.cells #[.int .i64 a, .int .i64 b, .int .i64 c, .int .i64 d] t)) w.heap.size ⟨a, b, c, d⟩ :=
  ⟨by simp [RectAt], fun j => by simp, by simp⟩
theorem Box.alloc {w : World} {B : Nat} {r : Pl.R} (h : Box w B r) (c : Array Value) (t : TypeId) : Box (w.alloc (.cells c t)) B r :=
  ⟨h.cells.alloc _, fun j => (frozen?_alloc_cells w c t _).trans (h.free j), by have := h.lt; simp; omega⟩
theorem Box.drew {w : World} {B : Nat} {r : Pl.R} (h : Box w B r) : Box w.drew B r := ⟨h.cells, h.free, h.lt⟩
theorem Box.belowAt {W w1 : World} {B N : Nat} {r : Pl.R} (h : Box W B r) (hb : Below N W w1) (hN : B < N) : Box w1 B r :=
  ⟨⟨(hb.cell (p := ⟨B, _, none⟩) hN).trans h.cells.1, (hb.cell (p := ⟨B, _, none⟩) hN).trans h.cells.2.1, (hb.cell (p := ⟨B, _, none⟩) hN).trans h.cells.2.2.1, (hb.cell (p := ⟨B, _, none⟩) hN).trans h.cells.2.2.2⟩, fun j => (hb.frozen (p := ⟨B, j, none⟩) hN).trans (h.free j), by have := h.lt; have := hb.size; omega⟩
theorem Box.below {W w1 : World} {B : Nat} {r : Pl.R} (h : Box W B r) (hb : Below W.heap.size W w1) : Box w1 B r := h.belowAt hb h.lt
theorem Box.far {w : World} {B : Nat} {r : Pl.R} (h : Box w B r) (a : Addr) (v : Value) (hn : B ≠ a.block) : Box (w.setCell a v) B r :=
  ⟨h.cells.far a v hn, fun j => by rw [World.frozen?_setCell]; exact h.free j, by have := h.lt; simpa [World.setCell] using this⟩
/-- The four facts in the walk's own spelling. -/
theorem Box.open {w : World} {B : Nat} {r : Pl.R} (h : Box w B r) :
    w.cell? ⟨B, 0, none⟩ = some (.int .i64 r.x0) ∧ w.cell? ⟨B, 1, none⟩ = some (.int .i64 r.y0) ∧ w.cell? ⟨B, 2, none⟩ = some (.int .i64 r.x1) ∧ w.cell? ⟨B, 3, none⟩ = some (.int .i64 r.y1) := by
  have := h.cells
  simpa only [RectAt, Nat.zero_add] using this
/-- A whole rectangle is stored over it. -/
theorem Box.store {w : World} {B : Nat} {r : Pl.R} (h : Box w B r) (a b c d : Int) :
    Box ((((w.setCell ⟨B, 0, none⟩ (.int .i64 a)).setCell ⟨B, 1, none⟩ (.int .i64 b)).setCell ⟨B, 2, none⟩ (.int .i64 c)).setCell ⟨B, 3, none⟩ (.int .i64 d)) B ⟨a, b, c, d⟩ := by
  obtain ⟨c0, c1, c2, c3⟩ := h.open
  refine ⟨by simp [RectAt, go_sem, c0, c1, c2, c3], fun j => ?_, by have := h.lt; simpa [World.setCell] using this⟩
  simp only [World.frozen?_setCell]
  exact h.free j
theorem below4 {B b : Nat} {a w : World} (h : Below B a w) (hb : B ≤ b) (v0 v1 v2 v3 : Value) : Below B a ((((w.setCell ⟨b, 0, none⟩ v0).setCell ⟨b, 1, none⟩ v1).setCell ⟨b, 2, none⟩ v2).setCell ⟨b, 3, none⟩ v3) :=
  (((h.setCell hb _).setCell hb _).setCell hb _).setCell hb _
theorem Box.far4 {w : World} {B b : Nat} {r : Pl.R} (h : Box w B r) (hn : B ≠ b) (v0 v1 v2 v3 : Value) : Box ((((w.setCell ⟨b, 0, none⟩ v0).setCell ⟨b, 1, none⟩ v1).setCell ⟨b, 2, none⟩ v2).setCell ⟨b, 3, none⟩ v3) B r :=
  (((h.far _ _ hn).far _ _ hn).far _ _ hn).far _ _ hn
/-- A block that holds one point. -/
structure PBox (w : World) (B : Nat) (x y : Int) : Prop where
  c0 : w.cell? ⟨B, 0, none⟩ = some (.int .i64 x)
  c1 : w.cell? ⟨B, 1, none⟩ = some (.int .i64 y)
  lt : B < w.heap.size
theorem PBox.fresh (w : World) (a b : Int) (t : TypeId) : PBox (w.alloc (.cells #[.int .i64 a, .int .i64 b] t)) w.heap.size a b := ⟨by simp, by simp, by simp⟩
theorem PBox.alloc {w : World} {B : Nat} {x y : Int} (h : PBox w B x y) (X : Obj) : PBox (w.alloc X) B x y := ⟨cell_alloc h.c0 X, cell_alloc h.c1 X, by have := h.lt; simp; omega⟩
theorem PBox.drew {w : World} {B : Nat} {x y : Int} (h : PBox w B x y) : PBox w.drew B x y := ⟨h.c0, h.c1, h.lt⟩
theorem PBox.below {W w1 : World} {B : Nat} {x y : Int} (h : PBox W B x y) (hb : Below W.heap.size W w1) : PBox w1 B x y :=
  ⟨(hb.cell (p := ⟨B, _, none⟩) h.lt).trans h.c0, (hb.cell (p := ⟨B, _, none⟩) h.lt).trans h.c1, by have := h.lt; have := hb.size; omega⟩
theorem Box.freshAt (w : World) (B : Nat) (hB : B = w.heap.size) (a b c d : Int) (t : TypeId) : Box (w.alloc (.cells #[.int .i64 a, .int .i64 b, .int .i64 c, .int .i64 d] t)) B ⟨a, b, c, d⟩ := by subst hB; exact Box.fresh w a b c d t
theorem PBox.freshAt (w : World) (B : Nat) (hB : B = w.heap.size) (a b : Int) (t : TypeId) : PBox (w.alloc (.cells #[.int .i64 a, .int .i64 b] t)) B a b := by subst hB; exact PBox.fresh w a b t
end Go.Proofs.Ytoplgnckdmkaoaa

namespace Go.Proofs.Ytoplgnckdmkaoaa
open Go.RowKit

theorem wp_region_in {P : Program} {id : Nat} {Q : Exit → Act → World → Prop} {a : Act} {w : World} {l : List Oper} {K : Type} (f : K → World) (hm : P.follows .mixedOrders = true) (hB : Region.lexB .any l.toArray = true)
    (hC : ∃ n, w.drew = f n) (h : wpQuiet P l.toArray (fun w' => ∃ n, w' = f n) (fun a' => ∀ w', (∃ n, w' = f n) → Q .normal a' w') l a) : (Code.region id l.toArray true).wp P Q a w :=
  wp_region_quiet (C := fun w' => ∃ n, w' = f n) hm hB hC (by simpa using h)
/-- A call of a function that only makes memory, in a world of the family. -/
theorem call_in {P : Program} {K : Type} {f : K → World} {n : K} {fn : FuncId} {args : Array Value} {v : Value}
    (h : Calls P fn args (f n) fun e w' => e = .returned v ∧ Below (f n).heap.size (f n) w') (hst : ∀ w', Below (f n).heap.size (f n) w' → ∃ m, w' = f m) :
    Calls P fn args (f n) fun e w'' => e = .returned v ∧ ∃ m, w'' = f m :=
  h.mono fun _ _ ⟨he, hb⟩ => ⟨he, hst _ hb⟩
end Go.Proofs.Ytoplgnckdmkaoaa
