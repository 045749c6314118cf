/-
  Layer 23: contract of counts' most.
-/
import Derived.Test.YtkcjbehfhcmiaaaHk
import Derived.Test.YtkcjbehfhcmiaaaHg
set_option maxRecDepth 100000
namespace Go.Proofs.Ytkcjbehfhcmiaaa
open Go.RowKit

set_option maxHeartbeats 2000000 in
theorem most_c (xs ys : List Int) (s1 s2 : Option Addr) (m1 m2 : Nat) (W : World) (hx : HoldsI W s1 xs) (hy : HoldsI W s2 ys) (bx : ∀ v ∈ xs, 0 ≤ v ∧ v ≤ 4096) (by' : ∀ v ∈ ys, 0 ≤ v ∧ v ≤ 4096) (n1 : 0 < xs.length ∧ xs.length ≤ 4096) (n2 : 0 < ys.length ∧ ys.length ≤ 4096) :
    Calls Try.prog 75 #[.agg #[.slice s1 xs.length m1, .slice s2 ys.length m2]] W fun e w' => e = .returned (.int .i64 (Hp.mxL xs * Hp.mxL ys)) ∧ Below W.heap.size W w' := by
  obtain ⟨WB, hWB⟩ : ∃ ww, ww = (W.alloc (.cells #[.slice s1 xs.length m1, .slice s2 ys.length m2] 82)) := ⟨_, rfl⟩
  have hb0 : Below W.heap.size W WB := by rw [hWB]; exact (below_alloc (Below.refl _ W) (Nat.le_refl _) _)
  have B0 := Lib.hid hb0
  have hC : Blk WB (W.heap.size) 82 #[.slice s1 xs.length m1, .slice s2 ys.length m2] := by
    have := Blk.new (W) 82 #[.slice s1 xs.length m1, .slice s2 ys.length m2]
    rw [hWB]
    exact (show Blk _ (W.heap.size) _ _ by simpa using this)
  have HC0 := Lib.hid hC
  have HWB := Lib.hid hWB
  clear hb0 hWB hC
  have k1 := max_c xs s1 m1 WB.drew (by omega) n1.1 (hx.below B0.out.drew (Nat.le_refl _))
  have k2 := max_c ys s2 m2 WB.drew (by omega) n2.1 (hy.below B0.out.drew (Nat.le_refl _))
  have q1 := bx _ (Hp.mxL_mem (fun e => by rw [e] at n1; simp at n1))
  have q2 := by' _ (Hp.mxL_mem (fun e => by rw [e] at n2; simp at n2))
  have p1 := Int.mul_nonneg q1.1 q2.1
  have p2 := Int.mul_le_mul q1.2 q2.2 q2.1 (by decide)
  generalize Hp.mxL xs = A at *
  generalize Hp.mxL ys = B at *
  obtain ⟨AB, hAB⟩ : ∃ x, A * B = x := ⟨_, rfl⟩
  have hw : wrap64 (A * B) = AB := by rw [← hAB]; exact IntWalk.wrap64_in _ ⟨by omega, by omega⟩
  have hw2 : IntKind.i64.wrap (A * B) = AB := by rw [IntWalk.i64_left]; exact hw
  rw [hAB]
  have BD := Lib.hid B0.out.drew
  have KS := Lib.hid (show (fun w' => w'.cell? ⟨W.heap.size, 0, none⟩ = some (.slice s1 xs.length m1) ∧ w'.cell? ⟨W.heap.size, 1, none⟩ = some (.slice s2 ys.length m2)) WB.drew from HC0.out.drew.two)
  have HW2 := HWB.out
  clear B0 HC0 HWB q1 q2 p1 p2 hAB hx hy bx by' n1 n2
  go_enter Try.func75, Try.ntmps75
  go_upto_region 1 with fail
  rw [← HW2]
  clear HW2
  refine wp_region_held_drew (S := (fun w' => w'.cell? ⟨W.heap.size, 0, none⟩ = some (.slice s1 xs.length m1) ∧ w'.cell? ⟨W.heap.size, 1, none⟩ = some (.slice s2 ys.length m2))) (by kernel_rfl) (by (try dsimp only); exact KS.out) (fun hHeld => ?_)
  refine takeD (i := 0) (oi := _) (some 3) (v := ?_) rfl rfl (by kernel_rfl) (by kernel_rfl) (by kernel_rfl) (fun _ _ _ h => h) (Or.inl ⟨by rfl, ?_⟩) (by assumption) ?_
  rotate_left
  · (intro w hSw; (try dsimp only at hSw); go_simp; try with_reducible rfl)
  simp only [Act.put, List.setIfInBounds_toArray, List.set]
  refine takeD (i := 1) (oi := _) (some 4) (v := ?_) rfl rfl (by kernel_rfl) (by kernel_rfl) (by kernel_rfl) (fun _ _ _ h => h) (Or.inl ⟨by rfl, ?_⟩) (by assumption) ?_
  rotate_left
  · (intro w hSw; (try dsimp only at hSw); go_simp; try with_reducible rfl)
  simp only [Act.put, List.setIfInBounds_toArray, List.set]
  refine takeD (i := 3) (oi := _) (some 6) (v := ?_) rfl rfl (by kernel_rfl) (by kernel_rfl) (by kernel_rfl) (fun _ _ _ h => h) (Or.inl ⟨by rfl, ?_⟩) (by assumption) ?_
  rotate_left
  · (intro w hSw; (try dsimp only at hSw); go_simp; try with_reducible rfl)
  simp only [Act.put, List.setIfInBounds_toArray, List.set]
  refine takeD (i := 4) (oi := _) (some 7) (v := ?_) rfl rfl (by kernel_rfl) (by kernel_rfl) (by kernel_rfl) (fun _ _ _ h => h) (Or.inl ⟨by rfl, ?_⟩) (by assumption) ?_
  rotate_left
  · (intro w hSw; (try dsimp only at hSw); go_simp; try with_reducible rfl)
  simp only [Act.put, List.setIfInBounds_toArray, List.set]
  refine wpAnyH_ready (rs := [2]) (by kernel_rfl) (by simp) ?_
  refine AllReadyH.cons (o := _) rfl (fun K hK => ?_) AllReadyH.nil
  (go_simp; go_at_call 76; (with_reducible refine k1.mono ?_); rintro e wn ⟨rfl, rfl⟩)
  refine hK.out _ _ (by (try dsimp only); exact hHeld) (fun hHeld => ?_)
  clear hK K
  try simp only [Act.put, List.setIfInBounds_toArray, List.set]
  refine wpAnyH_ready (rs := [5]) (by kernel_rfl) (by simp) ?_
  refine AllReadyH.cons (o := _) rfl (fun K hK => ?_) AllReadyH.nil
  (go_simp; go_at_call 76; (with_reducible refine k2.mono ?_); rintro e wn ⟨rfl, rfl⟩)
  refine hK.out _ _ (by (try dsimp only); exact hHeld) (fun hHeld => ?_)
  clear hK K
  try simp only [Act.put, List.setIfInBounds_toArray, List.set]
  refine takeD (i := 6) (oi := _) (some 9) (v := ?_) rfl rfl (by kernel_rfl) (by kernel_rfl) (by kernel_rfl) (fun _ _ _ h => h) (Or.inl ⟨by rfl, ?_⟩) (by assumption) ?_
  rotate_left
  · (intro w hSw; (try dsimp only at hSw); go_simp; try with_reducible rfl)
  simp only [Act.put, List.setIfInBounds_toArray, List.set]
  refine takeD (i := 7) (oi := _) (some 2) (v := ?_) rfl rfl (by kernel_rfl) (by kernel_rfl) (by kernel_rfl) (fun _ _ _ h => h) (Or.inl ⟨by rfl, ?_⟩) (by assumption) ?_
  rotate_left
  · (intro w hSw; (try dsimp only at hSw); go_simp; try with_reducible rfl)
  simp only [Act.put, List.setIfInBounds_toArray, List.set]
  refine wpAnyH_done (by kernel_rfl) ?_ _
  clear hHeld
  go_wp2_with fail
  go_ret
  exact ⟨rfl, BD.out⟩
end Go.Proofs.Ytkcjbehfhcmiaaa
