/-
  Layer 23 (reference): contracts of in, tiles, Header.
-/
import Derived.Test.YtkcjbehfhcmiaaaHu
set_option maxRecDepth 100000
namespace Go.Proofs.Ytkcjbehfhcmiaaa
open Go.RowKit

set_option maxHeartbeats 1000000 in
theorem in_r (n lo hi : Int) (W : World) : Calls Try.prog 44 #[.int .i64 n, .int .i64 lo, .int .i64 hi] W fun e w' => e = .returned (.bool (Hp.inB lo hi n)) ∧ w' = W := by
  by_cases h1 : lo ≤ n
  · go_enter Try.func44, Try.ntmps44
    go_wp2_with fail
    go_ret
    exact ⟨ret_bool (by simp [Hp.inB, h1]), rfl⟩
  · go_enter Try.func44, Try.ntmps44
    go_wp2_with fail
    go_ret
    exact ⟨ret_bool (by simp [Hp.inB]; omega), rfl⟩
set_option maxHeartbeats 4000000 in
theorem tiles_r (h : Hp.Hd) (s : Option Addr) (m : Nat) (W : World) (hd : Hp.hdB h = true) : Calls Try.prog 80 #[.agg (hvA h s m)] W fun e w' => e = .returned (.int .i64 (Hp.cellsI h.a h.c h.tw * Hp.cellsI h.b h.d h.th)) ∧ Below W.heap.size W w' := by
  obtain ⟨WB, hWB⟩ : ∃ ww, ww = (W.alloc (.cells (hvA h s m) 26)) := ⟨_, rfl⟩
  have hb0 : Below W.heap.size W WB := by rw [hWB]; exact (below_alloc (Below.refl _ W) (Nat.le_refl _) _)
  have B0 := Lib.hid hb0
  have hH : Blk WB (W.heap.size) 26 (hvA h s m) := by
    have := Blk.new (W) 26 (hvA h s m)
    rw [hWB]
    exact (show Blk _ (W.heap.size) _ _ by simpa using this)
  have HH0 := Lib.hid hH
  have HWB := Lib.hid hWB
  clear hb0 hWB hH
  obtain ⟨hv, he, ⟨t1, t2⟩, ⟨t3, t4⟩, n1, n2⟩ := hdB_facts hd
  obtain ⟨v1, v2, v3, v4, v5, v6⟩ := Pl.valid_iff.1 hv
  obtain ⟨e1, e2⟩ := Pl.empty_not.1 he
  have k1 := fun W1 : World => cd_rs h.c h.tw W1 (by omega) (by omega)
  have k2 := fun W1 : World => fd_rs h.a h.tw W1 (by omega) (by omega)
  have k3 := fun W1 : World => cd_rs h.d h.th W1 (by omega) (by omega)
  have k4 := fun W1 : World => fd_rs h.b h.th W1 (by omega) (by omega)
  have b1 := cd_in t1 v1 (by omega)
  have b2 := cd_in t1 (show 0 ≤ h.c by omega) v3
  have b3 := cd_in t3 v4 (by omega)
  have b4 := cd_in t3 (show 0 ≤ h.d by omega) v6
  have q1 : Hp.cellsI h.a h.c h.tw = Pl.cd h.c h.tw - Pl.fd h.a h.tw := if_neg (by omega)
  have q2 : Hp.cellsI h.b h.d h.th = Pl.cd h.d h.th - Pl.fd h.b h.th := if_neg (by omega)
  have x1 := Hp.cellsI_nn t1 v1 v3
  have x2 := Hp.cellsI_nn t3 v4 v6
  rw [q1] at x1
  rw [q2] at x2
  rw [q1, q2]
  generalize Pl.cd h.c h.tw = CC at *
  generalize Pl.fd h.a h.tw = FA at *
  generalize Pl.cd h.d h.th = CD at *
  generalize Pl.fd h.b h.th = FB at *
  have y1 : IntKind.i64.wrap (CC - FA) = CC - FA := IntWalk.i64_in _ (by omega)
  have y2 : IntKind.i64.wrap (CD - FB) = CD - FB := IntWalk.i64_in _ (by omega)
  obtain ⟨N1, hN1⟩ : ∃ x, CC - FA = x := ⟨_, rfl⟩
  obtain ⟨N2, hN2⟩ : ∃ x, CD - FB = x := ⟨_, rfl⟩
  rw [hN1] at x1
  rw [hN2] at x2
  rw [hN1, hN2]
  have y1' : IntKind.i64.wrap (CC - FA) = N1 := y1.trans hN1
  have y2' : IntKind.i64.wrap (CD - FB) = N2 := y2.trans hN2
  have p1 := Int.mul_nonneg x1.1 x2.1
  have p2 := Int.mul_le_mul x1.2 x2.2 x2.1 (by decide)
  obtain ⟨NN, hNN⟩ : ∃ x, N1 * N2 = x := ⟨_, rfl⟩
  have y3 : wrap64 (N1 * N2) = NN := by rw [← hNN]; exact IntWalk.wrap64_in _ ⟨by omega, by omega⟩
  rw [hNN]
  obtain ⟨h0, h1, h2, h3, -, -, -⟩ := HH0.out.hd
  have hsz : WB.heap.size = W.heap.size + 1 := by rw [HWB.out]; simp
  obtain ⟨wr, hwr⟩ : ∃ x, x = WB.alloc (.cells #[.int .i64 h.a, .int .i64 h.b, .int .i64 h.c, .int .i64 h.d] 23) := ⟨_, rfl⟩
  have HR := Lib.hid (show Blk wr (W.heap.size + 1) 23 #[.int .i64 h.a, .int .i64 h.b, .int .i64 h.c, .int .i64 h.d] by rw [hwr, ← hsz]; exact Blk.new _ _ _)
  have HH1 := Lib.hid (show Blk wr W.heap.size 26 (hvA h s m) by rw [hwr]; exact HH0.out.alloc _)
  have HB1 := Lib.hid (show Below W.heap.size W wr by rw [hwr]; exact below_alloc B0.out B0.out.size _)
  have KS2 := Lib.hid (show (fun w' => w'.cell? ⟨W.heap.size + 1, 2, none⟩ = some (.int .i64 h.c) ∧ w'.cell? ⟨W.heap.size + 1, 0, none⟩ = some (.int .i64 h.a) ∧ w'.cell? ⟨W.heap.size, 4, none⟩ = some (.int .i64 h.tw)) wr.drew from ⟨HR.out.get 2 rfl, HR.out.get 0 rfl, HH1.out.get 4 rfl⟩)
  have KS3 := Lib.hid (show (fun w' => w'.cell? ⟨W.heap.size + 1, 3, none⟩ = some (.int .i64 h.d) ∧ w'.cell? ⟨W.heap.size + 1, 1, none⟩ = some (.int .i64 h.b) ∧ w'.cell? ⟨W.heap.size, 5, none⟩ = some (.int .i64 h.th)) wr.drew.drew from ⟨HR.out.get 3 rfl, HR.out.get 1 rfl, HH1.out.get 5 rfl⟩)
  have HBD := Lib.hid (show Below W.heap.size W wr.drew.drew from HB1.out.drew.drew)
  have HW2 := HWB.out
  have HWR := hwr
  clear hv he t1 t2 t3 t4 n1 n2 v1 v2 v3 v4 v5 v6 e1 e2 b1 b2 b3 b4 q1 q2 x1 x2 y1 y2 hN1 hN2 p1 p2 hNN hwr hd B0 HH0 HWB
  unfold hvA at HW2 ⊢
  go_enter Try.func80, Try.ntmps80
  go_upto_region 1 with fail
  rw [← HW2]
  clear HW2
  go_upto_region 2 with fail
  rw [← HWR]
  clear h0 h1 h2 h3 hsz HWR
  refine wp_region_held_drew (S := (fun w' => w'.cell? ⟨W.heap.size + 1, 2, none⟩ = some (.int .i64 h.c) ∧ w'.cell? ⟨W.heap.size + 1, 0, none⟩ = some (.int .i64 h.a) ∧ w'.cell? ⟨W.heap.size, 4, none⟩ = some (.int .i64 h.tw))) (by kernel_rfl) (by (try dsimp only); exact KS2.out) (fun hHeld => ?_)
  refine takeD (i := 0) (oi := _) (some 8) (v := ?_) rfl rfl (by kernel_rfl) (by kernel_rfl) (by kernel_rfl) (fun _ _ _ h => h) (Or.inl ⟨by rfl, ?_⟩) (by assumption) ?_
  rotate_left
  · (intro w hSw; (try dsimp only at hSw); go_simp; try with_reducible rfl)
  simp only [Act.put, List.setIfInBounds_toArray, List.set]
  refine takeD (i := 1) (oi := _) (some 9) (v := ?_) rfl rfl (by kernel_rfl) (by kernel_rfl) (by kernel_rfl) (fun _ _ _ h => h) (Or.inl ⟨by rfl, ?_⟩) (by assumption) ?_
  rotate_left
  · (intro w hSw; (try dsimp only at hSw); go_simp; try with_reducible rfl)
  simp only [Act.put, List.setIfInBounds_toArray, List.set]
  refine takeD (i := 2) (oi := _) (some 10) (v := ?_) rfl rfl (by kernel_rfl) (by kernel_rfl) (by kernel_rfl) (fun _ _ _ h => h) (Or.inl ⟨by rfl, ?_⟩) (by assumption) ?_
  rotate_left
  · (intro w hSw; (try dsimp only at hSw); go_simp; try with_reducible rfl)
  simp only [Act.put, List.setIfInBounds_toArray, List.set]
  refine takeD (i := 3) (oi := _) (some 11) (v := ?_) rfl rfl (by kernel_rfl) (by kernel_rfl) (by kernel_rfl) (fun _ _ _ h => h) (Or.inl ⟨by rfl, ?_⟩) (by assumption) ?_
  rotate_left
  · (intro w hSw; (try dsimp only at hSw); go_simp; try with_reducible rfl)
  simp only [Act.put, List.setIfInBounds_toArray, List.set]
  refine takeD (i := 5) (oi := _) (some 13) (v := ?_) rfl rfl (by kernel_rfl) (by kernel_rfl) (by kernel_rfl) (fun _ _ _ h => h) (Or.inl ⟨by rfl, ?_⟩) (by assumption) ?_
  rotate_left
  · (intro w hSw; (try dsimp only at hSw); go_simp; try with_reducible rfl)
  simp only [Act.put, List.setIfInBounds_toArray, List.set]
  refine takeD (i := 6) (oi := _) (some 14) (v := ?_) rfl rfl (by kernel_rfl) (by kernel_rfl) (by kernel_rfl) (fun _ _ _ h => h) (Or.inl ⟨by rfl, ?_⟩) (by assumption) ?_
  rotate_left
  · (intro w hSw; (try dsimp only at hSw); go_simp; try with_reducible rfl)
  simp only [Act.put, List.setIfInBounds_toArray, List.set]
  refine takeD (i := 7) (oi := _) (some 15) (v := ?_) rfl rfl (by kernel_rfl) (by kernel_rfl) (by kernel_rfl) (fun _ _ _ h => h) (Or.inl ⟨by rfl, ?_⟩) (by assumption) ?_
  rotate_left
  · (intro w hSw; (try dsimp only at hSw); go_simp; try with_reducible rfl)
  simp only [Act.put, List.setIfInBounds_toArray, List.set]
  refine takeD (i := 8) (oi := _) (some 16) (v := ?_) rfl rfl (by kernel_rfl) (by kernel_rfl) (by kernel_rfl) (fun _ _ _ h => h) (Or.inl ⟨by rfl, ?_⟩) (by assumption) ?_
  rotate_left
  · (intro w hSw; (try dsimp only at hSw); go_simp; try with_reducible rfl)
  simp only [Act.put, List.setIfInBounds_toArray, List.set]
  refine wpAnyH_ready (rs := [4]) (by kernel_rfl) (by simp) ?_
  refine AllReadyH.cons (o := _) rfl (fun K hK => ?_) AllReadyH.nil
  (go_simp; go_at_call 83; (with_reducible refine (k1 _).mono ?_); rintro e wn ⟨rfl, rfl⟩)
  refine hK.out _ _ (by (try dsimp only); exact hHeld) (fun hHeld => ?_)
  clear hK K
  try simp only [Act.put, List.setIfInBounds_toArray, List.set]
  refine wpAnyH_ready (rs := [9]) (by kernel_rfl) (by simp) ?_
  refine AllReadyH.cons (o := _) rfl (fun K hK => ?_) AllReadyH.nil
  (go_simp; go_at_call 82; (with_reducible refine (k2 _).mono ?_); rintro e wn ⟨rfl, rfl⟩)
  refine hK.out _ _ (by (try dsimp only); exact hHeld) (fun hHeld => ?_)
  clear hK K
  try simp only [Act.put, List.setIfInBounds_toArray, List.set]
  refine takeD (i := 10) (oi := _) (some 18) (v := ?_) rfl rfl (by kernel_rfl) (by kernel_rfl) (by kernel_rfl) (fun _ _ _ h => h) (Or.inl ⟨by rfl, ?_⟩) (by assumption) ?_
  rotate_left
  · (intro w hSw; (try dsimp only at hSw); go_simp; try with_reducible rfl)
  simp only [Act.put, List.setIfInBounds_toArray, List.set]
  refine takeD (i := 11) (oi := _) (some 4) (v := ?_) rfl rfl (by kernel_rfl) (by kernel_rfl) (by kernel_rfl) (fun _ _ _ h => h) (Or.inl ⟨by rfl, ?_⟩) (by assumption) ?_
  rotate_left
  · (intro w hSw; (try dsimp only at hSw); go_simp; try with_reducible rfl)
  simp only [Act.put, List.setIfInBounds_toArray, List.set]
  refine wpAnyH_done (by kernel_rfl) ?_ _
  clear hHeld
  go_upto_region 3 with fail
  refine wp_region_held_drew (S := (fun w' => w'.cell? ⟨W.heap.size + 1, 3, none⟩ = some (.int .i64 h.d) ∧ w'.cell? ⟨W.heap.size + 1, 1, none⟩ = some (.int .i64 h.b) ∧ w'.cell? ⟨W.heap.size, 5, none⟩ = some (.int .i64 h.th))) (by kernel_rfl) (by (try dsimp only); exact KS3.out) (fun hHeld => ?_)
  refine takeD (i := 0) (oi := _) (some 19) (v := ?_) rfl rfl (by kernel_rfl) (by kernel_rfl) (by kernel_rfl) (fun _ _ _ h => h) (Or.inl ⟨by rfl, ?_⟩) (by assumption) ?_
  rotate_left
  · (intro w hSw; (try dsimp only at hSw); go_simp; try with_reducible rfl)
  simp only [Act.put, List.setIfInBounds_toArray, List.set]
  refine takeD (i := 1) (oi := _) (some 20) (v := ?_) rfl rfl (by kernel_rfl) (by kernel_rfl) (by kernel_rfl) (fun _ _ _ h => h) (Or.inl ⟨by rfl, ?_⟩) (by assumption) ?_
  rotate_left
  · (intro w hSw; (try dsimp only at hSw); go_simp; try with_reducible rfl)
  simp only [Act.put, List.setIfInBounds_toArray, List.set]
  refine takeD (i := 2) (oi := _) (some 21) (v := ?_) rfl rfl (by kernel_rfl) (by kernel_rfl) (by kernel_rfl) (fun _ _ _ h => h) (Or.inl ⟨by rfl, ?_⟩) (by assumption) ?_
  rotate_left
  · (intro w hSw; (try dsimp only at hSw); go_simp; try with_reducible rfl)
  simp only [Act.put, List.setIfInBounds_toArray, List.set]
  refine takeD (i := 3) (oi := _) (some 22) (v := ?_) rfl rfl (by kernel_rfl) (by kernel_rfl) (by kernel_rfl) (fun _ _ _ h => h) (Or.inl ⟨by rfl, ?_⟩) (by assumption) ?_
  rotate_left
  · (intro w hSw; (try dsimp only at hSw); go_simp; try with_reducible rfl)
  simp only [Act.put, List.setIfInBounds_toArray, List.set]
  refine takeD (i := 5) (oi := _) (some 24) (v := ?_) rfl rfl (by kernel_rfl) (by kernel_rfl) (by kernel_rfl) (fun _ _ _ h => h) (Or.inl ⟨by rfl, ?_⟩) (by assumption) ?_
  rotate_left
  · (intro w hSw; (try dsimp only at hSw); go_simp; try with_reducible rfl)
  simp only [Act.put, List.setIfInBounds_toArray, List.set]
  refine takeD (i := 6) (oi := _) (some 25) (v := ?_) rfl rfl (by kernel_rfl) (by kernel_rfl) (by kernel_rfl) (fun _ _ _ h => h) (Or.inl ⟨by rfl, ?_⟩) (by assumption) ?_
  rotate_left
  · (intro w hSw; (try dsimp only at hSw); go_simp; try with_reducible rfl)
  simp only [Act.put, List.setIfInBounds_toArray, List.set]
  refine takeD (i := 7) (oi := _) (some 26) (v := ?_) rfl rfl (by kernel_rfl) (by kernel_rfl) (by kernel_rfl) (fun _ _ _ h => h) (Or.inl ⟨by rfl, ?_⟩) (by assumption) ?_
  rotate_left
  · (intro w hSw; (try dsimp only at hSw); go_simp; try with_reducible rfl)
  simp only [Act.put, List.setIfInBounds_toArray, List.set]
  refine takeD (i := 8) (oi := _) (some 27) (v := ?_) rfl rfl (by kernel_rfl) (by kernel_rfl) (by kernel_rfl) (fun _ _ _ h => h) (Or.inl ⟨by rfl, ?_⟩) (by assumption) ?_
  rotate_left
  · (intro w hSw; (try dsimp only at hSw); go_simp; try with_reducible rfl)
  simp only [Act.put, List.setIfInBounds_toArray, List.set]
  refine wpAnyH_ready (rs := [4]) (by kernel_rfl) (by simp) ?_
  refine AllReadyH.cons (o := _) rfl (fun K hK => ?_) AllReadyH.nil
  (go_simp; go_at_call 83; (with_reducible refine (k3 _).mono ?_); rintro e wn ⟨rfl, rfl⟩)
  refine hK.out _ _ (by (try dsimp only); exact hHeld) (fun hHeld => ?_)
  clear hK K
  try simp only [Act.put, List.setIfInBounds_toArray, List.set]
  refine wpAnyH_ready (rs := [9]) (by kernel_rfl) (by simp) ?_
  refine AllReadyH.cons (o := _) rfl (fun K hK => ?_) AllReadyH.nil
  (go_simp; go_at_call 82; (with_reducible refine (k4 _).mono ?_); rintro e wn ⟨rfl, rfl⟩)
  refine hK.out _ _ (by (try dsimp only); exact hHeld) (fun hHeld => ?_)
  clear hK K
  try simp only [Act.put, List.setIfInBounds_toArray, List.set]
  refine takeD (i := 10) (oi := _) (some 29) (v := ?_) rfl rfl (by kernel_rfl) (by kernel_rfl) (by kernel_rfl) (fun _ _ _ h => h) (Or.inl ⟨by rfl, ?_⟩) (by assumption) ?_
  rotate_left
  · (intro w hSw; (try dsimp only at hSw); go_simp; try with_reducible rfl)
  simp only [Act.put, List.setIfInBounds_toArray, List.set]
  refine takeD (i := 11) (oi := _) (some 5) (v := ?_) rfl rfl (by kernel_rfl) (by kernel_rfl) (by kernel_rfl) (fun _ _ _ h => h) (Or.inl ⟨by rfl, ?_⟩) (by assumption) ?_
  rotate_left
  · (intro w hSw; (try dsimp only at hSw); go_simp; try with_reducible rfl)
  simp only [Act.put, List.setIfInBounds_toArray, List.set]
  refine wpAnyH_done (by kernel_rfl) ?_ _
  clear hHeld
  go_wp2_with fail
  go_ret
  exact ⟨rfl, HBD.out⟩
end Go.Proofs.Ytkcjbehfhcmiaaa
