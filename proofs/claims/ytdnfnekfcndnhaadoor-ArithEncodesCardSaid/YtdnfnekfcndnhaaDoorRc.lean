/-
  Layer 11, the reference's encoder: up.
-/
import Derived.Test.YtdnfnekfcndnhaaDoorRb
set_option maxRecDepth 100000
namespace Go.Proofs.YtdnfnekfcndnhaaDoor
open Go.RowKit

/-- While up's first loop runs. -/
def U1 (w : World) (g N k : Nat) (v rg : Int) (m : Nat) (z : Bool) (y : Int) (wr : World) : Prop :=
  w.heap.size ≤ g ∧ Below w.heap.size w wr ∧ Am.Uz rg (Am.dig k (v % Am.Pw k)) m z y ∧ Ri wr g (Am.dig (N - k) (v / Am.Pw k) ++ (List.replicate m 0 ++ (Am.dig k (v % Am.Pw k)).drop m))
theorem U1.at {w wr : World} {g N k m j : Nat} {v rg y : Int} {z : Bool} (h : U1 w g N k v rg m z y wr) (hm : m < k) (hk : k ≤ N) (hj : j + k = N + m) :
    ∃ d, d = (Am.dig k (v % Am.Pw k))[m]'(by rw [Am.dig_len]; exact hm) ∧ wr.cell? ⟨g, j, none⟩ = some (.int .i64 d) ∧ 0 ≤ d ∧ d ≤ 255 := by
  refine ⟨_, rfl, ?_, ?_⟩
  · have hl : j < (Am.dig (N - k) (v / Am.Pw k) ++ (List.replicate m 0 ++ (Am.dig k (v % Am.Pw k)).drop m)).length := by simp [Am.dig_len]; omega
    rw [h.2.2.2.at hl]
    congr 2
    rw [List.getElem_append_right (by rw [Am.dig_len]; omega), List.getElem_append_right (by rw [Am.dig_len]; simp; omega), List.getElem_drop]
    congr 1
    rw [Am.dig_len, List.length_replicate]
    omega
  · have := Am.dig_bytes k (v % Am.Pw k) _ (List.getElem_mem (l := Am.dig k (v % Am.Pw k)) (n := m) (by rw [Am.dig_len]; exact hm))
    unfold Am.byte at this
    omega
theorem U1.next {w wr : World} {g N k m j : Nat} {v rg y d : Int} {z : Bool} (h : U1 w g N k v rg m z y wr) (hm : m < k) (hk : k ≤ N) (hj : j + k = N + m) (hd : d = (Am.dig k (v % Am.Pw k))[m]'(by rw [Am.dig_len]; exact hm)) :
    U1 w g N k v rg (m + 1) (if d = 0 then z else false) (if y < rg then 256 * y + 255 - d else y) (wr.setCell ⟨g, j, none⟩ (.int .i64 0)) := by
  refine ⟨h.1, h.2.1.setCell h.1 _, by subst hd; exact Am.uz_next h.2.2.1 (Am.dig_bytes _ _) _, ?_⟩
  have R := h.2.2.2.set j 0
  have e : (Am.dig (N - k) (v / Am.Pw k) ++ (List.replicate m 0 ++ (Am.dig k (v % Am.Pw k)).drop m)).set j 0 = Am.dig (N - k) (v / Am.Pw k) ++ (List.replicate (m + 1) 0 ++ (Am.dig k (v % Am.Pw k)).drop (m + 1)) := by
    rw [List.drop_eq_getElem_cons (by rw [Am.dig_len]; exact hm), List.set_append_right _ _ (by rw [Am.dig_len]; omega), List.set_append_right _ _ (by rw [Am.dig_len]; simp; omega), List.replicate_succ', List.append_assoc]
    have : j - (Am.dig (N - k) (v / Am.Pw k)).length - (List.replicate m (0 : Int)).length = 0 := by rw [Am.dig_len]; simp; omega
    rw [this]
    rfl
  rw [e] at R
  exact R
/-- After it. -/
theorem U1.out {w wr : World} {g N k : Nat} {v rg y : Int} {z : Bool} (h : U1 w g N k v rg k z y wr) (hk : k ≤ N) : Ri wr g (Am.dig N (v / Am.Pw k * Am.Pw k)) := by
  have R := h.2.2.2
  rw [List.drop_of_length_le (by rw [Am.dig_len]; omega), List.append_nil, Am.dig_zeros, Nat.sub_add_cancel hk] at R
  exact R
/-- While its second loop runs. -/
def U2 (w : World) (g N k : Nat) (v : Int) (i : Nat) (A : Int) (wr : World) : Prop :=
  w.heap.size ≤ g ∧ Below w.heap.size w wr ∧ Am.Ui N k i v A ∧ Ri wr g (Am.dig i A ++ List.replicate (N - i) 0)
theorem U2.at {w wr : World} {g N k i : Nat} {v A : Int} (h : U2 w g N k v (i + 1) A wr) : wr.cell? ⟨g, i, none⟩ = some (.int .i64 (A % 256)) := by
  have hl : i < (Am.dig (i + 1) A ++ List.replicate (N - (i + 1)) 0).length := by simp [Am.dig_len]; omega
  rw [h.2.2.2.at hl]
  congr 2
  rw [List.getElem_append_left (by rw [Am.dig_len]; omega)]
  have := Am.dig_len i (A / 256)
  simp [Am.dig_succ, List.getElem_append_right, this]
theorem U2.set (x : Int) {w wr : World} {g N k i : Nat} {v A : Int} (h : U2 w g N k v (i + 1) A wr) :
    Ri (wr.setCell ⟨g, i, none⟩ (.int .i64 x)) g (Am.dig i (A / 256) ++ x :: List.replicate (N - (i + 1)) 0) := by
  have R := h.2.2.2.set i x
  have e : (Am.dig (i + 1) A ++ List.replicate (N - (i + 1)) 0).set i x = Am.dig i (A / 256) ++ x :: List.replicate (N - (i + 1)) 0 := by
    rw [Am.dig_succ, List.append_assoc]
    have := set_mid (Am.dig i (A / 256)) (List.replicate (N - (i + 1)) 0) (A % 256) x
    rw [Am.dig_len] at this
    exact this
  rw [e] at R
  exact R
theorem U2.next {w wr : World} {g N k i : Nat} {v A x : Int} (h : U2 w g N k v (i + 1) A wr) (hd : A % 256 = 255) :
    U2 w g N k v i (A / 256) ((wr.setCell ⟨g, i, none⟩ (.int .i64 x)).setCell ⟨g, i, none⟩ (.int .i64 0)) := by
  refine ⟨h.1, (h.2.1.setCell h.1 _).setCell h.1 _, Am.ui_next h.2.2.1 hd, ?_⟩
  have R := (h.set x).set i 0
  have := set_mid (Am.dig i (A / 256)) (List.replicate (N - (i + 1)) 0) x 0
  rw [Am.dig_len] at this
  rw [this] at R
  have hl := h.2.2.1.le
  have e : N - i = N - (i + 1) + 1 := by omega
  rw [e, List.replicate_succ]
  exact R
theorem U2.done {w wr : World} {g N k i : Nat} {v A : Int} (h : U2 w g N k v (i + 1) A wr) (hd : A % 256 ≠ 255) :
    Ri (wr.setCell ⟨g, i, none⟩ (.int .i64 (A % 256 + 1))) g (Am.dig N (v + (Am.Pw k - v % Am.Pw k))) := by
  have R := h.set (A % 256 + 1)
  have e1 : Am.dig i (A / 256) ++ (A % 256 + 1) :: List.replicate (N - (i + 1)) 0 = Am.dig (i + 1) (A + 1) ++ List.replicate (N - (i + 1)) 0 := by
    rw [Am.dig_succ, show (A + 1) / 256 = A / 256 by omega, show (A + 1) % 256 = A % 256 + 1 by omega, List.append_assoc]
    rfl
  have hl := h.2.2.1.le
  rw [e1, Am.dig_zeros, h.2.2.1.sum, show i + 1 + (N - (i + 1)) = N by omega] at R
  exact R
/-- What up gives. -/
def UpG (w : World) (N k : Nat) (v rg : Int) (e : Ending) (w' : World) : Prop :=
  Below w.heap.size w w' ∧ ((Am.upB N k v rg = true ∧ ∃ g m', e = .returned (.tuple #[.slice (some ⟨g, 0, none⟩) N m', .bool true]) ∧ w.heap.size ≤ g ∧ Ri w' g (Am.dig N (Am.upV k v))) ∨ (Am.upB N k v rg = false ∧ e = .returned (.tuple #[.slice none 0 0, .bool false])))
theorem up_zero {w wr : World} {g N k m : Nat} {v rg y : Int} (h : U1 w g N k v rg k true y wr) (hk : k ≤ N) : UpG w N k v rg (.returned (.tuple #[.slice (some ⟨g, 0, none⟩) N m, .bool true])) wr := by
  have hz := h.2.2.1.ze.1 rfl
  have hp := Am.Pw_pos k
  have hb := Int.emod_nonneg v (show Am.Pw k ≠ 0 by omega)
  have hb2 := Int.emod_lt_of_pos v (show 0 < Am.Pw k by omega)
  rw [List.take_of_length_le (by rw [Am.dig_len]; omega), Am.val_dig k _ hb (by omega)] at hz
  refine ⟨h.2.1, .inl ⟨by unfold Am.upB; rw [if_pos hz], g, m, rfl, h.1, ?_⟩⟩
  have R := h.out hk
  have e : v / Am.Pw k * Am.Pw k = Am.upV k v := by
    unfold Am.upV
    rw [if_pos hz]
    have := Int.emod_add_mul_ediv v (Am.Pw k)
    rw [Int.mul_comm]
    omega
  rw [e] at R
  exact R
theorem up_far {w wr : World} {g N k : Nat} {v rg y : Int} (h : U1 w g N k v rg k false y wr) (hy : rg ≤ y + 1) : UpG w N k v rg (.returned (.tuple #[.slice none 0 0, .bool false])) wr := by
  have hp := Am.Pw_pos k
  have hb := Int.emod_nonneg v (show Am.Pw k ≠ 0 by omega)
  have hb2 := Int.emod_lt_of_pos v (show 0 < Am.Pw k by omega)
  have hz := h.2.2.1.ze
  have ha := h.2.2.1.aw
  rw [List.take_of_length_le (by rw [Am.dig_len]; omega), Am.val_dig k _ hb (by omega)] at hz ha
  have hz0 : ¬ v % Am.Pw k = 0 := fun e => absurd (hz.2 e) (by decide)
  refine ⟨h.2.1, .inr ⟨?_, rfl⟩⟩
  unfold Am.upB
  rw [if_neg hz0, Bool.and_eq_false_iff]
  exact .inl (by simp; omega)
theorem up_near {w wr : World} {g N k : Nat} {v rg y : Int} (h : U1 w g N k v rg k false y wr) (hy : ¬ rg ≤ y + 1) (hk : k ≤ N) (h0 : 0 ≤ v) (h1 : v + 1 ≤ Am.Pw N) : U2 w g N k v (N - k) (v / Am.Pw k) wr ∧ v % Am.Pw k ≠ 0 ∧ Am.Pw k - v % Am.Pw k < rg := by
  have hp := Am.Pw_pos k
  have hb := Int.emod_nonneg v (show Am.Pw k ≠ 0 by omega)
  have hb2 := Int.emod_lt_of_pos v (show 0 < Am.Pw k by omega)
  have hz := h.2.2.1.ze
  have ha := h.2.2.1.aw
  rw [List.take_of_length_le (by rw [Am.dig_len]; omega), Am.val_dig k _ hb (by omega)] at hz ha
  have hz0 : ¬ v % Am.Pw k = 0 := fun e => absurd (hz.2 e) (by decide)
  refine ⟨⟨h.1, h.2.1, Am.ui_start hk h0 h1, ?_⟩, hz0, by omega⟩
  have R := h.2.2.2
  rw [List.drop_of_length_le (by rw [Am.dig_len]; omega), List.append_nil] at R
  rw [show N - (N - k) = k by omega]
  exact R
theorem up_done {w wr : World} {g N k i m : Nat} {v rg A : Int} (h : U2 w g N k v (i + 1) A wr) (hd : A % 256 ≠ 255) (hz : v % Am.Pw k ≠ 0) (hn : Am.Pw k - v % Am.Pw k < rg) :
    UpG w N k v rg (.returned (.tuple #[.slice (some ⟨g, 0, none⟩) N m, .bool true])) (wr.setCell ⟨g, i, none⟩ (.int .i64 (A % 256 + 1))) := by
  refine ⟨h.2.1.setCell h.1 _, .inl ⟨?_, g, m, rfl, h.1, ?_⟩⟩
  · unfold Am.upB
    rw [if_neg hz]
    have hs := h.2.2.1.sum
    have ha := h.2.2.1.a0
    have hl := h.2.2.1.le
    have e : Am.Pw N = Am.Pw (i + 1) * Am.Pw (N - (i + 1)) := by
      unfold Am.Pw
      rw [← Int.pow_add]
      congr 1
      omega
    have hlt : A + 1 < Am.Pw (i + 1) := by
      have := Am.Pw_succ i
      omega
    have := Int.mul_lt_mul_of_pos_right hlt (show 0 < Am.Pw (N - (i + 1)) by have := Am.Pw_pos (N - (i + 1)); omega)
    rw [Bool.and_eq_true]
    exact ⟨by simpa using hn, by simp; omega⟩
  · have R := h.done hd
    have e : v + (Am.Pw k - v % Am.Pw k) = Am.upV k v := by unfold Am.upV; rw [if_neg hz]
    rw [e] at R
    exact R
theorem up_end {w wr : World} {g N k : Nat} {v rg A : Int} (h : U2 w g N k v 0 A wr) (hz : v % Am.Pw k ≠ 0) :
    UpG w N k v rg (.returned (.tuple #[.slice none 0 0, .bool false])) wr := by
  refine ⟨h.2.1, .inr ⟨?_, rfl⟩⟩
  unfold Am.upB
  rw [if_neg hz, Bool.and_eq_false_iff]
  have hs := h.2.2.1.sum
  have ha := h.2.2.1.a0
  rw [Am.Pw_zero] at ha
  have : A = 0 := by omega
  subst this
  rw [Nat.sub_zero] at hs
  exact .inr (by simp; omega)
end Go.Proofs.YtdnfnekfcndnhaaDoor
