/-
  Layer 19: half the step: the error of what is decoded from an index without missing planes.
-/
import Derived.Test.YtnmmgjbjnhiaoaaDoorDl19
set_option maxRecDepth 100000
namespace Go.Proofs.YtnmmgjbjnhiaoaaDoor
open Go.RowKit

theorem half_m {c s d : Int} (h : Qu.vB s d = true) (h1 : -1073741824 ≤ c) (h2 : c ≤ 1073741824) : (Qu.qI c s d = 0 → erI c 0 0 s d < max (Qu.thr s d) 1) ∧ (Qu.qI c s d ≠ 0 → 2 * erI c (Qu.qI c s d) 0 s d ≤ s) := by
  obtain ⟨s1, s2, _, _⟩ := Qu.v_iff.1 h
  have ht := Qu.thr_bd h
  obtain ⟨a, ha⟩ : ∃ a, a = Qu.absI c := ⟨_, rfl⟩
  have hab : 0 ≤ a ∧ a ≤ 1073741824 ∧ ((0 ≤ c ∧ a = c) ∨ (c < 0 ∧ a = -c)) := by rw [ha]; unfold Qu.absI; split <;> omega
  have hq : Qu.qI c s d = Qu.sgn (Qu.qn a s d) c := by unfold Qu.qI; rw [if_pos h, ← ha, show min a 281474976710656 = a by omega]
  rw [hq]
  by_cases hlt : a < Qu.thr s d
  · have e0 : Qu.qn a s d = 0 := Qu.qn_zero hlt
    rw [e0]
    have e1 : Qu.sgn 0 c = 0 := by unfold Qu.sgn; split <;> rfl
    rw [e1]
    refine ⟨fun _ => ?_, fun h => absurd rfl h⟩
    unfold erI Qu.rec_
    rw [if_neg (by simp)]
    omega
  · obtain ⟨p1, p2, p3⟩ := Qu.qn_pos (n := a) (s := s) (d := d) s1 (by omega)
    generalize Qu.qn a s d = n at *
    have hv : (0 ≤ c ∧ Qu.sgn n c = n) ∨ (c < 0 ∧ Qu.sgn n c = -n) := by unfold Qu.sgn; split <;> omega
    refine ⟨fun h0 => by omega, fun _ => ?_⟩
    obtain ⟨P, hP⟩ : ∃ P, P = (n - 1) * s := ⟨_, rfl⟩
    have hns : n * s = P + s := by rw [hP, Int.sub_mul]; omega
    have hlo : Qu.loX n s d = Qu.thr s d + P := by unfold Qu.loX; rw [hP]
    have hhi : Qu.hiX n 0 s d = Qu.thr s d - 1 + (P + s) := by
      unfold Qu.hiX
      rw [show (n + 2 ^ (0 : Int).toNat - 1) = n by simp, hns]
    have hP0 : 0 ≤ P := by rw [hP]; exact Int.mul_nonneg (by omega) (by omega)
    rw [← hP] at p2
    rw [hns] at p3
    have hm : Qu.mB 0 = true := by decide
    rcases hv with ⟨hc, hv⟩ | ⟨hc, hv⟩
    · rw [hv]
      have hr : Qu.rec_ n 0 s d = min ((Qu.thr s d + P + (Qu.thr s d - 1 + (P + s))) / 2) 4294967296 := by
        have e1 : Qu.absI n = n := by unfold Qu.absI; split <;> omega
        unfold Qu.rec_
        rw [if_pos ⟨by omega, h, hm⟩, e1, hlo, hhi]
        unfold Qu.sgn
        rw [if_neg (by omega)]
      unfold erI
      rw [hr]
      omega
    · rw [hv]
      have hr : Qu.rec_ (-n) 0 s d = -(min ((Qu.thr s d + P + (Qu.thr s d - 1 + (P + s))) / 2) 4294967296) := by
        have e1 : Qu.absI (-n) = n := by unfold Qu.absI; split <;> omega
        unfold Qu.rec_
        rw [if_pos ⟨by omega, h, hm⟩, e1, hlo, hhi]
        unfold Qu.sgn
        rw [if_pos (by omega)]
      unfold erI
      rw [hr]
      omega
end Go.Proofs.YtnmmgjbjnhiaoaaDoor
