/-
  Layer 23: the plain mathematics of the count of precincts and code blocks: the tiles of one column touch the same columns of cells. No program in sight.
-/
import Derived.Test.YtkcjbehfhcmiaaaHp
set_option maxRecDepth 100000
namespace Go.Proofs.Ytkcjbehfhcmiaaa
namespace Hp
open Go.RowKit

/-- A map of rectangles that treats both axes apart. -/
structure Sep (f : Pl.R → Pl.R) : Prop where
  x : ∀ r q : Pl.R, Pl.validB r.x0 r.y0 r.x1 r.y1 = true → Pl.validB q.x0 q.y0 q.x1 q.y1 = true → r.x0 = q.x0 → r.x1 = q.x1 → (f r).x0 = (f q).x0 ∧ (f r).x1 = (f q).x1
  y : ∀ r q : Pl.R, Pl.validB r.x0 r.y0 r.x1 r.y1 = true → Pl.validB q.x0 q.y0 q.x1 q.y1 = true → r.y0 = q.y0 → r.y1 = q.y1 → (f r).y0 = (f q).y0 ∧ (f r).y1 = (f q).y1
  v : ∀ r : Pl.R, Pl.validB r.x0 r.y0 r.x1 r.y1 = true → Pl.validB (f r).x0 (f r).y0 (f r).x1 (f r).y1 = true
theorem Sep.comp {f g : Pl.R → Pl.R} (hf : Sep f) (hg : Sep g) : Sep (fun r => g (f r)) :=
  ⟨fun r q hr hq h0 h1 => have a := hf.x r q hr hq h0 h1; hg.x _ _ (hf.v r hr) (hf.v q hq) a.1 a.2, fun r q hr hq h0 h1 => have a := hf.y r q hr hq h0 h1; hg.y _ _ (hf.v r hr) (hf.v q hq) a.1 a.2, fun r hr => hg.v _ (hf.v r hr)⟩
theorem cd_bd {a d : Int} (hd : 1 ≤ d) (h0 : 0 ≤ a) : 0 ≤ Pl.cd a d ∧ Pl.cd a d ≤ a := by
  obtain ⟨h1, h2, h3⟩ := Pl.cd_val hd h0
  refine ⟨h3, ?_⟩
  rcases Int.lt_or_le 0 (Pl.cd a d) with h | h
  · have : 1 * (Pl.cd a d - 1) ≤ d * (Pl.cd a d - 1) := Int.mul_le_mul_of_nonneg_right hd (by omega)
    have e : d * (Pl.cd a d - 1) = d * Pl.cd a d - d := by rw [Int.mul_sub, Int.mul_one]
    rw [e] at this
    omega
  · omega
theorem cd_mono {a b d : Int} (hd : 1 ≤ d) (h0 : 0 ≤ a) (h : a ≤ b) : Pl.cd a d ≤ Pl.cd b d := by
  rw [Pl.cd_le hd h0]
  obtain ⟨_, h2, _⟩ := Pl.cd_val hd (show 0 ≤ b by omega)
  rw [Int.mul_comm]
  omega
theorem sep_red {dx dy : Int} (hx : 1 ≤ dx ∧ dx ≤ 4096) (hy : 1 ≤ dy ∧ dy ≤ 4096) : Sep (fun r => Pl.redR r.x0 r.y0 r.x1 r.y1 dx dy) := by
  have e : ∀ r : Pl.R, Pl.validB r.x0 r.y0 r.x1 r.y1 = true → Pl.redR r.x0 r.y0 r.x1 r.y1 dx dy = ⟨Pl.cd r.x0 dx, Pl.cd r.y0 dy, Pl.cd r.x1 dx, Pl.cd r.y1 dy⟩ := fun r hr => by
    rw [Pl.redR, if_pos ⟨hr, Pl.div_iff.2 hx, Pl.div_iff.2 hy⟩]
  refine ⟨fun r q hr hq h0 h1 => ?_, fun r q hr hq h0 h1 => ?_, fun r hr => ?_⟩
  · rw [e r hr, e q hq, h0, h1]; exact ⟨rfl, rfl⟩
  · rw [e r hr, e q hq, h0, h1]; exact ⟨rfl, rfl⟩
  · rw [e r hr]
    obtain ⟨a1, a2, a3, a4, a5, a6⟩ := Pl.valid_iff.1 hr
    have b1 := cd_bd hx.1 a1
    have b2 := cd_bd hx.1 (show 0 ≤ r.x1 by omega)
    have b3 := cd_bd hy.1 a4
    have b4 := cd_bd hy.1 (show 0 ≤ r.y1 by omega)
    have b5 := cd_mono hx.1 a1 a2
    have b6 := cd_mono hy.1 a4 a5
    exact Pl.valid_iff.2 ⟨b1.1, b5, by dsimp only; omega, b3.1, b6, by dsimp only; omega⟩
theorem sep_zero : Sep (fun _ => ⟨0, 0, 0, 0⟩) := ⟨fun _ _ _ _ _ _ => ⟨rfl, rfl⟩, fun _ _ _ _ _ _ => ⟨rfl, rfl⟩, fun _ _ => by decide⟩
theorem pw_bd {e : Int} (h : e ≤ 12) : 1 ≤ Pl.pw e ∧ Pl.pw e ≤ 4096 := ⟨Pl.pw_pos e, by have := Pl.pw_le (e := e) (m := 12) h; simpa using this⟩
theorem sep_res {lev res : Int} : Sep (fun r => resR r lev res) := by
  unfold resR
  by_cases h : exB lev res = true
  · simp only [if_pos h]
    have hh : lev ≤ 5 ∧ 0 ≤ res ∧ res ≤ lev := by simpa [exB] using h
    exact sep_red (pw_bd (by omega)) (pw_bd (by omega))
  · simp only [if_neg h]
    exact sep_zero
theorem sep_bd {o : Int} : Sep (fun r => bdR r o) := by
  have e : ∀ r : Pl.R, Pl.validB r.x0 r.y0 r.x1 r.y1 = true → bdR r o = ⟨hfI r.x0 (decide (o = 1 ∨ o = 3)), hfI r.y0 (decide (o = 2 ∨ o = 3)), hfI r.x1 (decide (o = 1 ∨ o = 3)), hfI r.y1 (decide (o = 2 ∨ o = 3))⟩ := fun r hr => if_pos hr
  have b : ∀ (a : Int) (z : Bool), 0 ≤ a → 0 ≤ hfI a z ∧ hfI a z ≤ a := fun a z h => by unfold hfI; split <;> omega
  have mo : ∀ (a c : Int) (z : Bool), a ≤ c → hfI a z ≤ hfI c z := fun a c z h => by unfold hfI; split <;> omega
  refine ⟨fun r q hr hq h0 h1 => ?_, fun r q hr hq h0 h1 => ?_, fun r hr => ?_⟩
  · rw [e r hr, e q hq, h0, h1]; exact ⟨rfl, rfl⟩
  · rw [e r hr, e q hq, h0, h1]; exact ⟨rfl, rfl⟩
  · rw [e r hr]
    obtain ⟨a1, a2, a3, a4, a5, a6⟩ := Pl.valid_iff.1 hr
    have b1 := b r.x0 (decide (o = 1 ∨ o = 3)) a1
    have b2 := b r.x1 (decide (o = 1 ∨ o = 3)) (by omega)
    have b3 := b r.y0 (decide (o = 2 ∨ o = 3)) a4
    have b4 := b r.y1 (decide (o = 2 ∨ o = 3)) (by omega)
    exact Pl.valid_iff.2 ⟨b1.1, mo _ _ _ a2, by dsimp only; omega, b3.1, mo _ _ _ a5, by dsimp only; omega⟩
theorem sep_ban {lev idx : Int} : Sep (fun r => banR r lev idx) := by
  unfold banR
  by_cases h : okI idx lev = false
  · simp only [if_pos h]; exact sep_zero
  · simp only [if_neg h]
    by_cases h0 : idx = 0
    · simp only [if_pos h0]; exact sep_res
    · simp only [if_neg h0]; exact sep_res.comp sep_bd
theorem sep_smp {c : Cm} (hx : 1 ≤ c.dx ∧ c.dx ≤ 4096) (hy : 1 ≤ c.dy ∧ c.dy ≤ 4096) : Sep (fun r => smp r c) := sep_red hx hy

theorem foldl_max : ∀ (l : List Int) (x y : Int), y < l.foldl max x ↔ (y < x ∨ ∃ z ∈ l, y < z)
  | [], x, y => by simp
  | z :: l, x, y => by
    rw [List.foldl_cons, foldl_max l]
    simp only [List.mem_cons, exists_eq_or_imp]
    constructor
    · rintro (h | h)
      · rcases Int.lt_or_le y x with q | q
        · exact .inl q
        · exact .inr (.inl (by omega))
      · exact .inr (.inr h)
    · rintro (h | h | h)
      · exact .inl (by omega)
      · exact .inl (by omega)
      · exact .inr h
theorem mxL_lt {l : List Int} (h : l ≠ []) (y : Int) : y < mxL l ↔ ∃ z ∈ l, y < z := by
  match l, h with
  | x :: l, _ =>
    rw [mxL, foldl_max]
    simp
theorem foldl_max_mem : ∀ (l : List Int) (x : Int), l.foldl max x = x ∨ l.foldl max x ∈ l
  | [], x => .inl rfl
  | z :: l, x => by
    rw [List.foldl_cons]
    rcases foldl_max_mem l (max x z) with h | h
    · rw [h]
      rcases Int.le_total x z with q | q
      · exact .inr (by rw [show max x z = z by omega]; exact List.mem_cons_self)
      · exact .inl (by omega)
    · exact .inr (List.mem_cons_of_mem _ h)
theorem mxL_mem {l : List Int} (h : l ≠ []) : mxL l ∈ l := by
  match l, h with
  | x :: l, _ =>
    rcases foldl_max_mem l x with q | q
    · rw [mxL, q]; exact List.mem_cons_self
    · exact List.mem_cons_of_mem _ q
theorem mxL_le {l : List Int} {z : Int} (h : z ∈ l) : z ≤ mxL l := by
  have hn : l ≠ [] := fun e => by rw [e] at h; exact absurd h (List.not_mem_nil)
  refine Classical.byContradiction fun q => ?_
  have hm := mxL_mem hn
  match l, hn with
  | x :: l, _ =>
    have := (foldl_max l x (z - 1)).2 ((List.mem_cons.1 h).elim (fun e => .inl (by omega)) (fun e => .inr ⟨z, e, by omega⟩))
    simp only [mxL] at q
    omega
theorem mxL_prod {xs ys : List Int} (hx : xs ≠ []) (hy : ys ≠ []) (px : ∀ x ∈ xs, 0 ≤ x) (py : ∀ y ∈ ys, 0 ≤ y) (k : Int) : k < mxL xs * mxL ys ↔ ∃ x ∈ xs, ∃ y ∈ ys, k < x * y := by
  constructor
  · intro h
    exact ⟨_, mxL_mem hx, _, mxL_mem hy, h⟩
  · rintro ⟨x, h1, y, h2, h3⟩
    have a := Int.mul_le_mul_of_nonneg_right (mxL_le h1) (py y h2)
    have b := Int.mul_le_mul_of_nonneg_left (mxL_le h2) (Int.le_trans (px x h1) (mxL_le h1))
    omega
theorem cellsI_nn {a c w : Int} (hw : 1 ≤ w) (h0 : 0 ≤ a) (h1 : c ≤ 4096) : 0 ≤ cellsI a c w ∧ cellsI a c w ≤ 4096 := by
  unfold cellsI
  split
  · omega
  · have ax := Pl.axis hw h0 (by omega) h1
    have := ax.lt
    have := ax.lo
    have := ax.hi
    omega
end Hp
end Go.Proofs.Ytkcjbehfhcmiaaa
