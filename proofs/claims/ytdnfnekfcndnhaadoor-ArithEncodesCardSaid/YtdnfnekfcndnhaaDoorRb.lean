/-
  Layer 11, the reference's encoder: up.
-/
import Derived.Test.YtdnfnekfcndnhaaDoorEf2
import Derived.Test.YtdnfnekfcndnhaaDoorRa
import Derived.Test.YtdnfnekfcndnhaaDoorFrameI
set_option maxRecDepth 100000
namespace Go.Proofs.YtdnfnekfcndnhaaDoor
open Go.RowKit
namespace Am

theorem dig_zeros (i j : Nat) (A : Int) : dig i A ++ List.replicate j 0 = dig (i + j) (A * Pw j) := by
  induction j with
  | zero => simp [Pw_zero]
  | succ j ih =>
    rw [List.replicate_succ', ← List.append_assoc, ih, ← Nat.add_assoc, dig_succ, Pw_succ]
    have e : A * (256 * Pw j) = 256 * (A * Pw j) := by rw [Int.mul_left_comm]
    rw [e]
    generalize A * Pw j = z
    have e1 : 256 * z / 256 = z := by omega
    have e2 : 256 * z % 256 = 0 := by omega
    rw [e1, e2]
/-- The digits of a number, those behind a place apart. -/
theorem dig_split (i k : Nat) : ∀ v : Int, dig (i + k) v = dig i (v / Pw k) ++ dig k (v % Pw k) := by
  induction k with
  | zero => intro v; simp [Pw_zero, dig]
  | succ k ih =>
    intro v
    have hp := Pw_pos k
    rw [← Nat.add_assoc, dig_succ, ih, dig_succ, List.append_assoc, Pw_succ]
    have e1 : v / 256 / Pw k = v / (256 * Pw k) := Int.ediv_ediv_of_nonneg (by omega)
    have h0 := Int.emod_add_mul_ediv v (256 * Pw k)
    have h1 := Int.emod_add_mul_ediv (v / 256) (Pw k)
    rw [e1] at h1
    have e3 : v % (256 * Pw k) / 256 = v / 256 % Pw k := by
      generalize v / (256 * Pw k) = q at *
      generalize v % (256 * Pw k) = r at *
      rw [Int.mul_assoc] at h0
      generalize Pw k * q = z at *
      omega
    have e4 : v % (256 * Pw k) % 256 = v % 256 := by
      rw [Int.mul_assoc] at h0
      generalize Pw k * (v / (256 * Pw k)) = z at *
      omega
    rw [e1, e3, e4]
/-- While the last k digits become zero: what is known of those gone through. -/
structure Uz (w : Int) (D : List Int) (m : Nat) (z : Bool) (y : Int) : Prop where
  ze : z = true ↔ val (D.take m) = 0
  y0 : 0 ≤ y ∧ y ≤ 256 * w
  aw : (y < w ∧ y = Pw m - 1 - val (D.take m)) ∨ (w ≤ y ∧ w ≤ Pw m - 1 - val (D.take m))
theorem uz_start {w : Int} {D : List Int} (hw : 1 ≤ w) : Uz w D 0 true 0 := ⟨by simp [val_nil], by omega, .inl ⟨by omega, by simp [Pw_zero, val_nil]⟩⟩
theorem uz_next {w : Int} {D : List Int} {m : Nat} {z : Bool} {y : Int} (H : Uz w D m z y) (hD : bytes D) (hm : m < D.length) :
    Uz w D (m + 1) (if D[m] = 0 then z else false) (if y < w then 256 * y + 255 - D[m] else y) := by
  have hx := hD D[m] (List.getElem_mem _)
  unfold byte at hx
  have hb := val_bd (D.take m) (bytes_take hD m)
  have hl : (D.take m).length = m := by simp; omega
  rw [hl] at hb
  have e : val (D.take (m + 1)) = 256 * val (D.take m) + D[m] := by rw [List.take_succ_eq_append_getElem hm, val_snoc]
  have hy := H.y0
  refine ⟨?_, ?_, ?_⟩
  · rw [e]
    by_cases h0 : D[m] = 0
    · rw [if_pos h0, H.ze]; omega
    · rw [if_neg h0]
      simp
      omega
  · split <;> omega
  · rw [e, Pw_succ]
    rcases H.aw with ⟨h1, h2⟩ | ⟨h1, h2⟩
    · rw [if_pos h1]
      by_cases h3 : 256 * y + 255 - D[m] < w
      · exact .inl ⟨h3, by omega⟩
      · exact .inr ⟨by omega, by omega⟩
    · rw [if_neg (by omega)]
      exact .inr ⟨h1, by omega⟩
/-- While one is added: the digits up to a place, the number that comes out. -/
structure Ui (N k i : Nat) (v A : Int) : Prop where
  le : i ≤ N
  a0 : 0 ≤ A ∧ A + 1 ≤ Pw i
  sum : (A + 1) * Pw (N - i) = v + (Pw k - v % Pw k)
theorem ui_start {N k : Nat} {v : Int} (hk : k ≤ N) (h0 : 0 ≤ v) (h1 : v + 1 ≤ Pw N) : Ui N k (N - k) v (v / Pw k) := by
  have hp := Pw_pos k
  have hq := Int.emod_add_mul_ediv v (Pw k)
  have hr := Int.emod_nonneg v (show Pw k ≠ 0 by omega)
  refine ⟨by omega, ⟨Int.ediv_nonneg h0 (by omega), ?_⟩, ?_⟩
  · have e : Pw N = Pw (N - k) * Pw k := by
      unfold Pw
      rw [← Int.pow_add]
      congr 1
      omega
    have h2 : v / Pw k < Pw (N - k) := Int.ediv_lt_of_lt_mul (by omega) (by rw [← e]; omega)
    omega
  · rw [show N - (N - k) = k by omega, Int.add_mul, Int.one_mul, Int.mul_comm]
    omega
theorem ui_next {N k i : Nat} {v A : Int} (H : Ui N k (i + 1) v A) (hd : A % 256 = 255) : Ui N k i v (A / 256) := by
  have h := H.a0
  rw [Pw_succ] at h
  have hl := H.le
  refine ⟨by omega, by omega, ?_⟩
  have hs := H.sum
  rw [show N - i = N - (i + 1) + 1 by omega, Pw_succ]
  have e : A + 1 = (A / 256 + 1) * 256 := by omega
  rw [e, Int.mul_assoc] at hs
  exact hs
end Am
/-- Integers in a block. -/
def Ri (W : World) (g : Nat) (l : List Int) : Prop := ∃ cs, Blk W g 3 cs ∧ ∀ i (_ : i < l.length), cs[i]? = some (.int .i64 l[i])
theorem Ri.at {W : World} {g : Nat} {l : List Int} (h : Ri W g l) {i : Nat} (hi : i < l.length) : W.cell? ⟨g, i, none⟩ = some (.int .i64 l[i]) := by
  obtain ⟨cs, h1, h2⟩ := h
  rw [h1.cell]
  exact h2 i hi
theorem Ri.free {W : World} {g : Nat} {l : List Int} (h : Ri W g l) (o : Nat) : W.frozen? ⟨g, o, none⟩ = false := h.elim fun _ z => z.1.free o
theorem Ri.lt {W : World} {g : Nat} {l : List Int} (h : Ri W g l) : g < W.heap.size := h.elim fun _ z => z.1.lt
theorem Ri.set {W : World} {g : Nat} {l : List Int} (h : Ri W g l) (k : Nat) (x : Int) : Ri (W.setCell ⟨g, k, none⟩ (.int .i64 x)) g (l.set k x) := by
  obtain ⟨cs, h1, h2⟩ := h
  refine ⟨_, h1.set _ _, fun i hi => ?_⟩
  rw [List.length_set] at hi
  rw [Array.getElem?_setIfInBounds]
  have hk := h2 i hi
  by_cases he : k = i
  · subst he
    rw [if_pos rfl, if_pos (Array.getElem?_eq_some_iff.1 hk).1]
    simp
  · rw [if_neg he, hk, List.getElem_set_ne he]
theorem Ri.holds {W : World} {g : Nat} {l : List Int} (h : Ri W g l) : HoldsI W (some ⟨g, 0, none⟩) l := .inr ⟨g, 0, rfl, fun i hi => by
  rw [Nat.zero_add]
  exact h.at hi⟩
theorem set_mid (a b : List Int) (x y : Int) : (a ++ x :: b).set a.length y = a ++ y :: b := by simp
end Go.Proofs.YtdnfnekfcndnhaaDoor
