/-
  Layer 23: contracts of the closures that crowded hands to count.
-/
import Derived.Test.YtkcjbehfhcmiaaaHy3
import Derived.Deep.RegionHeld3
set_option maxRecDepth 100000
namespace Go.Proofs.Ytkcjbehfhcmiaaa
open Go.RowKit

set_option maxHeartbeats 4000000 in
theorem clo1 (p : Hp.Ps) (s s2 : Option Addr) (m m2 : Nat) (c : Hp.Cm) (res : Int) (r : Pl.R) (gc gp gr : Nat) (W : World) (hc : Blk W gc 56 #[.int .i64 c.depth, .bool c.sg, .int .i64 c.dx, .int .i64 c.dy]) (hp : Blk W gp 35 (pvA p s m s2 m2)) (hr : Blk W gr 3 #[.int .i64 res]) : Calls Try.prog 67 #[.agg #[.int .i64 r.x0, .int .i64 r.y0, .int .i64 r.x1, .int .i64 r.y1], .pointer (some ⟨gc, 0, none⟩), .pointer (some ⟨gp, 0, none⟩), .pointer (some ⟨gr, 0, none⟩)] W fun e w' => e = .returned (.agg (rv (Hp.fRes p res c r))) ∧ Below W.heap.size W w' := by
  obtain ⟨WB, hWB⟩ : ∃ ww, ww = ((W.alloc (.cells #[.int .i64 r.x0, .int .i64 r.y0, .int .i64 r.x1, .int .i64 r.y1] 23)).alloc (.cells #[.int .i64 0, .int .i64 0, .int .i64 0, .int .i64 0] 23)) := ⟨_, rfl⟩
  have hb0 : Below W.heap.size W WB := by rw [hWB]; exact (below_alloc (below_alloc (Below.refl _ W) (Nat.le_refl _) _) (by simp <;> omega) _)
  have B0 := Lib.hid hb0
  have hX : Blk WB (W.heap.size) 23 #[.int .i64 r.x0, .int .i64 r.y0, .int .i64 r.x1, .int .i64 r.y1] := by
    have := Blk.new (W) 23 #[.int .i64 r.x0, .int .i64 r.y0, .int .i64 r.x1, .int .i64 r.y1]
    rw [hWB]
    exact ((show Blk _ (W.heap.size) _ _ by simpa using this)).alloc _
  have HX0 := Lib.hid hX
  have hY : Blk WB (W.heap.size + 1) 23 #[.int .i64 0, .int .i64 0, .int .i64 0, .int .i64 0] := by
    have := Blk.new ((W.alloc (.cells #[.int .i64 r.x0, .int .i64 r.y0, .int .i64 r.x1, .int .i64 r.y1] 23))) 23 #[.int .i64 0, .int .i64 0, .int .i64 0, .int .i64 0]
    rw [hWB]
    exact (show Blk _ (W.heap.size + 1) _ _ by simpa using this)
  have HY0 := Lib.hid hY
  have HWB := Lib.hid hWB
  clear hb0 hWB hX hY
  have k1 := samples_c r c WB.drew
  have k2 := fun W1 : World => reso_y (Hp.smp r c) p.lev res W1
  have hq : Hp.fRes p res c r = Hp.resR (Hp.smp r c) p.lev res := rfl
  rw [hq]
  clear hq
  generalize Hp.resR (Hp.smp r c) p.lev res = R2 at *
  generalize Hp.smp r c = Q at *
  dsimp only [rv] at k1 k2
  have KS := Lib.hid (show (fun w' => w'.cell? ⟨W.heap.size, 0, none⟩ = some (.int .i64 r.x0) ∧ w'.cell? ⟨W.heap.size, 1, none⟩ = some (.int .i64 r.y0) ∧ w'.cell? ⟨W.heap.size, 2, none⟩ = some (.int .i64 r.x1) ∧ w'.cell? ⟨W.heap.size, 3, none⟩ = some (.int .i64 r.y1) ∧ w'.cell? ⟨gc, 0, none⟩ = some (.int .i64 c.depth) ∧ w'.cell? ⟨gc, 1, none⟩ = some (.bool c.sg) ∧ w'.cell? ⟨gc, 2, none⟩ = some (.int .i64 c.dx) ∧ w'.cell? ⟨gc, 3, none⟩ = some (.int .i64 c.dy) ∧ w'.cell? ⟨gp, 1, none⟩ = some (.int .i64 p.lev) ∧ w'.cell? ⟨gr, 0, none⟩ = some (.int .i64 res)) WB.drew from by
    obtain ⟨a0, a1, a2, a3⟩ := HX0.out.drew.four
    obtain ⟨c0, c1, c2, c3⟩ := (hc.belowAt B0.out hc.lt).drew.four
    exact ⟨a0, a1, a2, a3, c0, c1, c2, c3, (hp.belowAt B0.out hp.lt).drew.get 1 rfl, (hr.belowAt B0.out hr.lt).drew.get 0 rfl⟩)
  have KB := Lib.hid (show ∀ (w w' : World), (fun w' => w'.cell? ⟨W.heap.size, 0, none⟩ = some (.int .i64 r.x0) ∧ w'.cell? ⟨W.heap.size, 1, none⟩ = some (.int .i64 r.y0) ∧ w'.cell? ⟨W.heap.size, 2, none⟩ = some (.int .i64 r.x1) ∧ w'.cell? ⟨W.heap.size, 3, none⟩ = some (.int .i64 r.y1) ∧ w'.cell? ⟨gc, 0, none⟩ = some (.int .i64 c.depth) ∧ w'.cell? ⟨gc, 1, none⟩ = some (.bool c.sg) ∧ w'.cell? ⟨gc, 2, none⟩ = some (.int .i64 c.dx) ∧ w'.cell? ⟨gc, 3, none⟩ = some (.int .i64 c.dy) ∧ w'.cell? ⟨gp, 1, none⟩ = some (.int .i64 p.lev) ∧ w'.cell? ⟨gr, 0, none⟩ = some (.int .i64 res)) w → Below w.heap.size w w' → (fun w' => w'.cell? ⟨W.heap.size, 0, none⟩ = some (.int .i64 r.x0) ∧ w'.cell? ⟨W.heap.size, 1, none⟩ = some (.int .i64 r.y0) ∧ w'.cell? ⟨W.heap.size, 2, none⟩ = some (.int .i64 r.x1) ∧ w'.cell? ⟨W.heap.size, 3, none⟩ = some (.int .i64 r.y1) ∧ w'.cell? ⟨gc, 0, none⟩ = some (.int .i64 c.depth) ∧ w'.cell? ⟨gc, 1, none⟩ = some (.bool c.sg) ∧ w'.cell? ⟨gc, 2, none⟩ = some (.int .i64 c.dx) ∧ w'.cell? ⟨gc, 3, none⟩ = some (.int .i64 c.dy) ∧ w'.cell? ⟨gp, 1, none⟩ = some (.int .i64 p.lev) ∧ w'.cell? ⟨gr, 0, none⟩ = some (.int .i64 res)) w' from fun w w' h hb => by
    have q : ∀ (b o : Nat) (v : Value), w.cell? ⟨b, o, none⟩ = some v → w'.cell? ⟨b, o, none⟩ = some v := fun b o v h => (hb.cell (p := ⟨b, o, none⟩) (cell_lt h)).trans h
    exact ⟨q _ _ _ h.1, q _ _ _ h.2.1, q _ _ _ h.2.2.1, q _ _ _ h.2.2.2.1, q _ _ _ h.2.2.2.2.1, q _ _ _ h.2.2.2.2.2.1, q _ _ _ h.2.2.2.2.2.2.1, q _ _ _ h.2.2.2.2.2.2.2.1, q _ _ _ h.2.2.2.2.2.2.2.2.1, q _ _ _ h.2.2.2.2.2.2.2.2.2⟩)
  have ngc : gc ≠ W.heap.size + 1 := by have := hc.lt; omega
  have ngp : gp ≠ W.heap.size + 1 := by have := hp.lt; omega
  have ngr : gr ≠ W.heap.size + 1 := by have := hr.lt; omega
  have KL := Lib.hid (show ∀ (w : World) (v0 v1 v2 v3 : Value), (fun w' => w'.cell? ⟨W.heap.size, 0, none⟩ = some (.int .i64 r.x0) ∧ w'.cell? ⟨W.heap.size, 1, none⟩ = some (.int .i64 r.y0) ∧ w'.cell? ⟨W.heap.size, 2, none⟩ = some (.int .i64 r.x1) ∧ w'.cell? ⟨W.heap.size, 3, none⟩ = some (.int .i64 r.y1) ∧ w'.cell? ⟨gc, 0, none⟩ = some (.int .i64 c.depth) ∧ w'.cell? ⟨gc, 1, none⟩ = some (.bool c.sg) ∧ w'.cell? ⟨gc, 2, none⟩ = some (.int .i64 c.dx) ∧ w'.cell? ⟨gc, 3, none⟩ = some (.int .i64 c.dy) ∧ w'.cell? ⟨gp, 1, none⟩ = some (.int .i64 p.lev) ∧ w'.cell? ⟨gr, 0, none⟩ = some (.int .i64 res)) w → (fun w' => w'.cell? ⟨W.heap.size, 0, none⟩ = some (.int .i64 r.x0) ∧ w'.cell? ⟨W.heap.size, 1, none⟩ = some (.int .i64 r.y0) ∧ w'.cell? ⟨W.heap.size, 2, none⟩ = some (.int .i64 r.x1) ∧ w'.cell? ⟨W.heap.size, 3, none⟩ = some (.int .i64 r.y1) ∧ w'.cell? ⟨gc, 0, none⟩ = some (.int .i64 c.depth) ∧ w'.cell? ⟨gc, 1, none⟩ = some (.bool c.sg) ∧ w'.cell? ⟨gc, 2, none⟩ = some (.int .i64 c.dx) ∧ w'.cell? ⟨gc, 3, none⟩ = some (.int .i64 c.dy) ∧ w'.cell? ⟨gp, 1, none⟩ = some (.int .i64 p.lev) ∧ w'.cell? ⟨gr, 0, none⟩ = some (.int .i64 res)) ((((w.setCell ⟨W.heap.size + 1, 0, none⟩ v0).setCell ⟨W.heap.size + 1, 1, none⟩ v1).setCell ⟨W.heap.size + 1, 2, none⟩ v2).setCell ⟨W.heap.size + 1, 3, none⟩ v3) from fun w v0 v1 v2 v3 h => by
    have q : ∀ (b o : Nat) (v : Value), b ≠ W.heap.size + 1 → w.cell? ⟨b, o, none⟩ = some v → ((((w.setCell ⟨W.heap.size + 1, 0, none⟩ v0).setCell ⟨W.heap.size + 1, 1, none⟩ v1).setCell ⟨W.heap.size + 1, 2, none⟩ v2).setCell ⟨W.heap.size + 1, 3, none⟩ v3).cell? ⟨b, o, none⟩ = some v := fun b o v hn h => cell_far _ (cell_far _ (cell_far _ (cell_far _ h hn) hn) hn) hn
    exact ⟨q _ _ _ (by omega) h.1, q _ _ _ (by omega) h.2.1, q _ _ _ (by omega) h.2.2.1, q _ _ _ (by omega) h.2.2.2.1, q _ _ _ ngc h.2.2.2.2.1, q _ _ _ ngc h.2.2.2.2.2.1, q _ _ _ ngc h.2.2.2.2.2.2.1, q _ _ _ ngc h.2.2.2.2.2.2.2.1, q _ _ _ ngp h.2.2.2.2.2.2.2.2.1, q _ _ _ ngr h.2.2.2.2.2.2.2.2.2⟩)
  have BD := Lib.hid B0.out.drew
  have HYD := Lib.hid HY0.out.drew
  have HW2 := HWB.out
  clear B0 HX0 HY0 HWB hc hp hr ngc ngp ngr
  go_enter Try.func67, Try.ntmps67
  go_upto_region 1 with fail
  rw [← HW2]
  clear HW2
  refine wp_region_held_drew (S := (fun w' => w'.cell? ⟨W.heap.size, 0, none⟩ = some (.int .i64 r.x0) ∧ w'.cell? ⟨W.heap.size, 1, none⟩ = some (.int .i64 r.y0) ∧ w'.cell? ⟨W.heap.size, 2, none⟩ = some (.int .i64 r.x1) ∧ w'.cell? ⟨W.heap.size, 3, none⟩ = some (.int .i64 r.y1) ∧ w'.cell? ⟨gc, 0, none⟩ = some (.int .i64 c.depth) ∧ w'.cell? ⟨gc, 1, none⟩ = some (.bool c.sg) ∧ w'.cell? ⟨gc, 2, none⟩ = some (.int .i64 c.dx) ∧ w'.cell? ⟨gc, 3, none⟩ = some (.int .i64 c.dy) ∧ w'.cell? ⟨gp, 1, none⟩ = some (.int .i64 p.lev) ∧ w'.cell? ⟨gr, 0, none⟩ = some (.int .i64 res))) (by kernel_rfl) (by (try dsimp only); exact KS.out) (fun hHeld => ?_)
  refine takeD (i := 0) (oi := _) (some 6) (v := ?_) rfl rfl (by kernel_rfl) (by kernel_rfl) (by kernel_rfl) (fun _ _ _ h => h) (Or.inl ⟨by rfl, ?_⟩) (by assumption) ?_
  rotate_left
  · (intro w hSw; (try dsimp only at hSw); go_simp; try with_reducible rfl)
  simp only [Act.put, List.setIfInBounds_toArray, List.set]
  refine takeD (i := 1) (oi := _) (some 7) (v := ?_) rfl rfl (by kernel_rfl) (by kernel_rfl) (by kernel_rfl) (fun _ _ _ h => h) (Or.inl ⟨by rfl, ?_⟩) (by assumption) ?_
  rotate_left
  · (intro w hSw; (try dsimp only at hSw); go_simp; try with_reducible rfl)
  simp only [Act.put, List.setIfInBounds_toArray, List.set]
  refine takeD (i := 3) (oi := _) (some 9) (v := ?_) rfl rfl (by kernel_rfl) (by kernel_rfl) (by kernel_rfl) (fun _ _ _ h => h) (Or.inl ⟨by rfl, ?_⟩) (by assumption) ?_
  rotate_left
  · (intro w hSw; (try dsimp only at hSw); go_simp; try with_reducible rfl)
  simp only [Act.put, List.setIfInBounds_toArray, List.set]
  refine takeD (i := 4) (oi := _) (some 10) (v := ?_) rfl rfl (by kernel_rfl) (by kernel_rfl) (by kernel_rfl) (fun _ _ _ h => h) (Or.inl ⟨by rfl, ?_⟩) (by assumption) ?_
  rotate_left
  · (intro w hSw; (try dsimp only at hSw); go_simp; try with_reducible rfl)
  simp only [Act.put, List.setIfInBounds_toArray, List.set]
  refine takeD (i := 5) (oi := _) (some 11) (v := ?_) rfl rfl (by kernel_rfl) (by kernel_rfl) (by kernel_rfl) (fun _ _ _ h => h) (Or.inl ⟨by rfl, ?_⟩) (by assumption) ?_
  rotate_left
  · (intro w hSw; (try dsimp only at hSw); go_simp; try with_reducible rfl)
  simp only [Act.put, List.setIfInBounds_toArray, List.set]
  refine wpAnyH_ready (rs := [2]) (by kernel_rfl) (by simp) ?_
  refine AllReadyH.cons (o := _) rfl (fun K hK => ?_) AllReadyH.nil
  (go_simp; go_at_call 69; (with_reducible refine k1.mono ?_); rintro e w1 ⟨rfl, hb1⟩; have HS1 := Lib.hid (KB.out _ _ KS.out hb1); have B1 := Lib.hid (BD.out.trans (hb1.mono BD.out.size)); have HY1 := Lib.hid (HYD.out.below hb1); clear hb1)
  refine hK.out _ _ (by (try dsimp only); first | exact hHeld | exact HS1.out | exact HS2.out | exact KL.out _ _ _ _ _ HS2.out) (fun hHeld => ?_)
  clear hK K
  try simp only [Act.put, List.setIfInBounds_toArray, List.set]
  refine wpAnyH_ready (rs := [6]) (by kernel_rfl) (by simp) ?_
  refine AllReadyH.cons (o := _) rfl (fun K hK => ?_) AllReadyH.nil
  (go_simp; go_at_call 68; (with_reducible refine (k2 _).mono ?_); rintro e w2 ⟨rfl, hb2⟩; have HS2 := Lib.hid (KB.out _ _ HS1.out hb2); have B2 := Lib.hid (B1.out.trans (hb2.mono B1.out.size)); have HY2 := Lib.hid (HY1.out.below hb2); obtain ⟨y0, y1, y2, y3⟩ := HY2.out.four; have yf := HY2.out.free; clear hb2)
  refine hK.out _ _ (by (try dsimp only); first | exact hHeld | exact HS1.out | exact HS2.out | exact KL.out _ _ _ _ _ HS2.out) (fun hHeld => ?_)
  clear hK K
  try simp only [Act.put, List.setIfInBounds_toArray, List.set]
  refine wpAnyH_ready (rs := [7]) (by kernel_rfl) (by simp) ?_
  refine AllReadyH.cons (o := _) rfl (fun K hK => ?_) AllReadyH.nil
  go_simp
  refine hK.out _ _ (by (try dsimp only); first | exact hHeld | exact HS1.out | exact HS2.out | exact KL.out _ _ _ _ _ HS2.out) (fun hHeld => ?_)
  clear hK K
  try simp only [Act.put, List.setIfInBounds_toArray, List.set]
  refine wpAnyH_done (by kernel_rfl) ?_ _
  clear hHeld
  go_wp2_with fail
  refine bodyPost_ret (results_r rfl _ rfl (HY2.out.set4 _ _ _ _)) rfl ?_
  exact ⟨rfl, below4 B2.out (by omega) _ _ _ _⟩
set_option maxHeartbeats 4000000 in
theorem clo2 (p : Hp.Ps) (s s2 : Option Addr) (m m2 : Nat) (c : Hp.Cm) (res : Int) (r : Pl.R) (gc gp gr : Nat) (W : World) (hc : Blk W gc 56 #[.int .i64 c.depth, .bool c.sg, .int .i64 c.dx, .int .i64 c.dy]) (hp : Blk W gp 35 (pvA p s m s2 m2)) (hr : Blk W gr 3 #[.int .i64 res]) : Calls Try.prog 73 #[.agg #[.int .i64 r.x0, .int .i64 r.y0, .int .i64 r.x1, .int .i64 r.y1], .pointer (some ⟨gc, 0, none⟩), .pointer (some ⟨gp, 0, none⟩), .pointer (some ⟨gr, 0, none⟩)] W fun e w' => e = .returned (.agg (rv (Hp.fBan p res c r))) ∧ Below W.heap.size W w' := by
  obtain ⟨WB, hWB⟩ : ∃ ww, ww = ((W.alloc (.cells #[.int .i64 r.x0, .int .i64 r.y0, .int .i64 r.x1, .int .i64 r.y1] 23)).alloc (.cells #[.int .i64 0, .int .i64 0, .int .i64 0, .int .i64 0] 23)) := ⟨_, rfl⟩
  have hb0 : Below W.heap.size W WB := by rw [hWB]; exact (below_alloc (below_alloc (Below.refl _ W) (Nat.le_refl _) _) (by simp <;> omega) _)
  have B0 := Lib.hid hb0
  have hX : Blk WB (W.heap.size) 23 #[.int .i64 r.x0, .int .i64 r.y0, .int .i64 r.x1, .int .i64 r.y1] := by
    have := Blk.new (W) 23 #[.int .i64 r.x0, .int .i64 r.y0, .int .i64 r.x1, .int .i64 r.y1]
    rw [hWB]
    exact ((show Blk _ (W.heap.size) _ _ by simpa using this)).alloc _
  have HX0 := Lib.hid hX
  have hY : Blk WB (W.heap.size + 1) 23 #[.int .i64 0, .int .i64 0, .int .i64 0, .int .i64 0] := by
    have := Blk.new ((W.alloc (.cells #[.int .i64 r.x0, .int .i64 r.y0, .int .i64 r.x1, .int .i64 r.y1] 23))) 23 #[.int .i64 0, .int .i64 0, .int .i64 0, .int .i64 0]
    rw [hWB]
    exact (show Blk _ (W.heap.size + 1) _ _ by simpa using this)
  have HY0 := Lib.hid hY
  have HWB := Lib.hid hWB
  clear hb0 hWB hX hY
  have k1 := samples_c r c WB.drew
  have k2 := fun W1 : World => band_y (Hp.smp r c) p.lev res W1
  have hq : Hp.fBan p res c r = Hp.banR (Hp.smp r c) p.lev res := rfl
  rw [hq]
  clear hq
  generalize Hp.banR (Hp.smp r c) p.lev res = R2 at *
  generalize Hp.smp r c = Q at *
  dsimp only [rv] at k1 k2
  have KS := Lib.hid (show (fun w' => w'.cell? ⟨W.heap.size, 0, none⟩ = some (.int .i64 r.x0) ∧ w'.cell? ⟨W.heap.size, 1, none⟩ = some (.int .i64 r.y0) ∧ w'.cell? ⟨W.heap.size, 2, none⟩ = some (.int .i64 r.x1) ∧ w'.cell? ⟨W.heap.size, 3, none⟩ = some (.int .i64 r.y1) ∧ w'.cell? ⟨gc, 0, none⟩ = some (.int .i64 c.depth) ∧ w'.cell? ⟨gc, 1, none⟩ = some (.bool c.sg) ∧ w'.cell? ⟨gc, 2, none⟩ = some (.int .i64 c.dx) ∧ w'.cell? ⟨gc, 3, none⟩ = some (.int .i64 c.dy) ∧ w'.cell? ⟨gp, 1, none⟩ = some (.int .i64 p.lev) ∧ w'.cell? ⟨gr, 0, none⟩ = some (.int .i64 res)) WB.drew from by
    obtain ⟨a0, a1, a2, a3⟩ := HX0.out.drew.four
    obtain ⟨c0, c1, c2, c3⟩ := (hc.belowAt B0.out hc.lt).drew.four
    exact ⟨a0, a1, a2, a3, c0, c1, c2, c3, (hp.belowAt B0.out hp.lt).drew.get 1 rfl, (hr.belowAt B0.out hr.lt).drew.get 0 rfl⟩)
  have KB := Lib.hid (show ∀ (w w' : World), (fun w' => w'.cell? ⟨W.heap.size, 0, none⟩ = some (.int .i64 r.x0) ∧ w'.cell? ⟨W.heap.size, 1, none⟩ = some (.int .i64 r.y0) ∧ w'.cell? ⟨W.heap.size, 2, none⟩ = some (.int .i64 r.x1) ∧ w'.cell? ⟨W.heap.size, 3, none⟩ = some (.int .i64 r.y1) ∧ w'.cell? ⟨gc, 0, none⟩ = some (.int .i64 c.depth) ∧ w'.cell? ⟨gc, 1, none⟩ = some (.bool c.sg) ∧ w'.cell? ⟨gc, 2, none⟩ = some (.int .i64 c.dx) ∧ w'.cell? ⟨gc, 3, none⟩ = some (.int .i64 c.dy) ∧ w'.cell? ⟨gp, 1, none⟩ = some (.int .i64 p.lev) ∧ w'.cell? ⟨gr, 0, none⟩ = some (.int .i64 res)) w → Below w.heap.size w w' → (fun w' => w'.cell? ⟨W.heap.size, 0, none⟩ = some (.int .i64 r.x0) ∧ w'.cell? ⟨W.heap.size, 1, none⟩ = some (.int .i64 r.y0) ∧ w'.cell? ⟨W.heap.size, 2, none⟩ = some (.int .i64 r.x1) ∧ w'.cell? ⟨W.heap.size, 3, none⟩ = some (.int .i64 r.y1) ∧ w'.cell? ⟨gc, 0, none⟩ = some (.int .i64 c.depth) ∧ w'.cell? ⟨gc, 1, none⟩ = some (.bool c.sg) ∧ w'.cell? ⟨gc, 2, none⟩ = some (.int .i64 c.dx) ∧ w'.cell? ⟨gc, 3, none⟩ = some (.int .i64 c.dy) ∧ w'.cell? ⟨gp, 1, none⟩ = some (.int .i64 p.lev) ∧ w'.cell? ⟨gr, 0, none⟩ = some (.int .i64 res)) w' from fun w w' h hb => by
    have q : ∀ (b o : Nat) (v : Value), w.cell? ⟨b, o, none⟩ = some v → w'.cell? ⟨b, o, none⟩ = some v := fun b o v h => (hb.cell (p := ⟨b, o, none⟩) (cell_lt h)).trans h
    exact ⟨q _ _ _ h.1, q _ _ _ h.2.1, q _ _ _ h.2.2.1, q _ _ _ h.2.2.2.1, q _ _ _ h.2.2.2.2.1, q _ _ _ h.2.2.2.2.2.1, q _ _ _ h.2.2.2.2.2.2.1, q _ _ _ h.2.2.2.2.2.2.2.1, q _ _ _ h.2.2.2.2.2.2.2.2.1, q _ _ _ h.2.2.2.2.2.2.2.2.2⟩)
  have ngc : gc ≠ W.heap.size + 1 := by have := hc.lt; omega
  have ngp : gp ≠ W.heap.size + 1 := by have := hp.lt; omega
  have ngr : gr ≠ W.heap.size + 1 := by have := hr.lt; omega
  have KL := Lib.hid (show ∀ (w : World) (v0 v1 v2 v3 : Value), (fun w' => w'.cell? ⟨W.heap.size, 0, none⟩ = some (.int .i64 r.x0) ∧ w'.cell? ⟨W.heap.size, 1, none⟩ = some (.int .i64 r.y0) ∧ w'.cell? ⟨W.heap.size, 2, none⟩ = some (.int .i64 r.x1) ∧ w'.cell? ⟨W.heap.size, 3, none⟩ = some (.int .i64 r.y1) ∧ w'.cell? ⟨gc, 0, none⟩ = some (.int .i64 c.depth) ∧ w'.cell? ⟨gc, 1, none⟩ = some (.bool c.sg) ∧ w'.cell? ⟨gc, 2, none⟩ = some (.int .i64 c.dx) ∧ w'.cell? ⟨gc, 3, none⟩ = some (.int .i64 c.dy) ∧ w'.cell? ⟨gp, 1, none⟩ = some (.int .i64 p.lev) ∧ w'.cell? ⟨gr, 0, none⟩ = some (.int .i64 res)) w → (fun w' => w'.cell? ⟨W.heap.size, 0, none⟩ = some (.int .i64 r.x0) ∧ w'.cell? ⟨W.heap.size, 1, none⟩ = some (.int .i64 r.y0) ∧ w'.cell? ⟨W.heap.size, 2, none⟩ = some (.int .i64 r.x1) ∧ w'.cell? ⟨W.heap.size, 3, none⟩ = some (.int .i64 r.y1) ∧ w'.cell? ⟨gc, 0, none⟩ = some (.int .i64 c.depth) ∧ w'.cell? ⟨gc, 1, none⟩ = some (.bool c.sg) ∧ w'.cell? ⟨gc, 2, none⟩ = some (.int .i64 c.dx) ∧ w'.cell? ⟨gc, 3, none⟩ = some (.int .i64 c.dy) ∧ w'.cell? ⟨gp, 1, none⟩ = some (.int .i64 p.lev) ∧ w'.cell? ⟨gr, 0, none⟩ = some (.int .i64 res)) ((((w.setCell ⟨W.heap.size + 1, 0, none⟩ v0).setCell ⟨W.heap.size + 1, 1, none⟩ v1).setCell ⟨W.heap.size + 1, 2, none⟩ v2).setCell ⟨W.heap.size + 1, 3, none⟩ v3) from fun w v0 v1 v2 v3 h => by
    have q : ∀ (b o : Nat) (v : Value), b ≠ W.heap.size + 1 → w.cell? ⟨b, o, none⟩ = some v → ((((w.setCell ⟨W.heap.size + 1, 0, none⟩ v0).setCell ⟨W.heap.size + 1, 1, none⟩ v1).setCell ⟨W.heap.size + 1, 2, none⟩ v2).setCell ⟨W.heap.size + 1, 3, none⟩ v3).cell? ⟨b, o, none⟩ = some v := fun b o v hn h => cell_far _ (cell_far _ (cell_far _ (cell_far _ h hn) hn) hn) hn
    exact ⟨q _ _ _ (by omega) h.1, q _ _ _ (by omega) h.2.1, q _ _ _ (by omega) h.2.2.1, q _ _ _ (by omega) h.2.2.2.1, q _ _ _ ngc h.2.2.2.2.1, q _ _ _ ngc h.2.2.2.2.2.1, q _ _ _ ngc h.2.2.2.2.2.2.1, q _ _ _ ngc h.2.2.2.2.2.2.2.1, q _ _ _ ngp h.2.2.2.2.2.2.2.2.1, q _ _ _ ngr h.2.2.2.2.2.2.2.2.2⟩)
  have BD := Lib.hid B0.out.drew
  have HYD := Lib.hid HY0.out.drew
  have HW2 := HWB.out
  clear B0 HX0 HY0 HWB hc hp hr ngc ngp ngr
  go_enter Try.func73, Try.ntmps73
  go_upto_region 1 with fail
  rw [← HW2]
  clear HW2
  refine wp_region_held_drew (S := (fun w' => w'.cell? ⟨W.heap.size, 0, none⟩ = some (.int .i64 r.x0) ∧ w'.cell? ⟨W.heap.size, 1, none⟩ = some (.int .i64 r.y0) ∧ w'.cell? ⟨W.heap.size, 2, none⟩ = some (.int .i64 r.x1) ∧ w'.cell? ⟨W.heap.size, 3, none⟩ = some (.int .i64 r.y1) ∧ w'.cell? ⟨gc, 0, none⟩ = some (.int .i64 c.depth) ∧ w'.cell? ⟨gc, 1, none⟩ = some (.bool c.sg) ∧ w'.cell? ⟨gc, 2, none⟩ = some (.int .i64 c.dx) ∧ w'.cell? ⟨gc, 3, none⟩ = some (.int .i64 c.dy) ∧ w'.cell? ⟨gp, 1, none⟩ = some (.int .i64 p.lev) ∧ w'.cell? ⟨gr, 0, none⟩ = some (.int .i64 res))) (by kernel_rfl) (by (try dsimp only); exact KS.out) (fun hHeld => ?_)
  refine takeD (i := 0) (oi := _) (some 6) (v := ?_) rfl rfl (by kernel_rfl) (by kernel_rfl) (by kernel_rfl) (fun _ _ _ h => h) (Or.inl ⟨by rfl, ?_⟩) (by assumption) ?_
  rotate_left
  · (intro w hSw; (try dsimp only at hSw); go_simp; try with_reducible rfl)
  simp only [Act.put, List.setIfInBounds_toArray, List.set]
  refine takeD (i := 1) (oi := _) (some 7) (v := ?_) rfl rfl (by kernel_rfl) (by kernel_rfl) (by kernel_rfl) (fun _ _ _ h => h) (Or.inl ⟨by rfl, ?_⟩) (by assumption) ?_
  rotate_left
  · (intro w hSw; (try dsimp only at hSw); go_simp; try with_reducible rfl)
  simp only [Act.put, List.setIfInBounds_toArray, List.set]
  refine takeD (i := 3) (oi := _) (some 9) (v := ?_) rfl rfl (by kernel_rfl) (by kernel_rfl) (by kernel_rfl) (fun _ _ _ h => h) (Or.inl ⟨by rfl, ?_⟩) (by assumption) ?_
  rotate_left
  · (intro w hSw; (try dsimp only at hSw); go_simp; try with_reducible rfl)
  simp only [Act.put, List.setIfInBounds_toArray, List.set]
  refine takeD (i := 4) (oi := _) (some 10) (v := ?_) rfl rfl (by kernel_rfl) (by kernel_rfl) (by kernel_rfl) (fun _ _ _ h => h) (Or.inl ⟨by rfl, ?_⟩) (by assumption) ?_
  rotate_left
  · (intro w hSw; (try dsimp only at hSw); go_simp; try with_reducible rfl)
  simp only [Act.put, List.setIfInBounds_toArray, List.set]
  refine takeD (i := 5) (oi := _) (some 11) (v := ?_) rfl rfl (by kernel_rfl) (by kernel_rfl) (by kernel_rfl) (fun _ _ _ h => h) (Or.inl ⟨by rfl, ?_⟩) (by assumption) ?_
  rotate_left
  · (intro w hSw; (try dsimp only at hSw); go_simp; try with_reducible rfl)
  simp only [Act.put, List.setIfInBounds_toArray, List.set]
  refine wpAnyH_ready (rs := [2]) (by kernel_rfl) (by simp) ?_
  refine AllReadyH.cons (o := _) rfl (fun K hK => ?_) AllReadyH.nil
  (go_simp; go_at_call 69; (with_reducible refine k1.mono ?_); rintro e w1 ⟨rfl, hb1⟩; have HS1 := Lib.hid (KB.out _ _ KS.out hb1); have B1 := Lib.hid (BD.out.trans (hb1.mono BD.out.size)); have HY1 := Lib.hid (HYD.out.below hb1); clear hb1)
  refine hK.out _ _ (by (try dsimp only); first | exact hHeld | exact HS1.out | exact HS2.out | exact KL.out _ _ _ _ _ HS2.out) (fun hHeld => ?_)
  clear hK K
  try simp only [Act.put, List.setIfInBounds_toArray, List.set]
  refine wpAnyH_ready (rs := [6]) (by kernel_rfl) (by simp) ?_
  refine AllReadyH.cons (o := _) rfl (fun K hK => ?_) AllReadyH.nil
  (go_simp; go_at_call 74; (with_reducible refine (k2 _).mono ?_); rintro e w2 ⟨rfl, hb2⟩; have HS2 := Lib.hid (KB.out _ _ HS1.out hb2); have B2 := Lib.hid (B1.out.trans (hb2.mono B1.out.size)); have HY2 := Lib.hid (HY1.out.below hb2); obtain ⟨y0, y1, y2, y3⟩ := HY2.out.four; have yf := HY2.out.free; clear hb2)
  refine hK.out _ _ (by (try dsimp only); first | exact hHeld | exact HS1.out | exact HS2.out | exact KL.out _ _ _ _ _ HS2.out) (fun hHeld => ?_)
  clear hK K
  try simp only [Act.put, List.setIfInBounds_toArray, List.set]
  refine wpAnyH_ready (rs := [7]) (by kernel_rfl) (by simp) ?_
  refine AllReadyH.cons (o := _) rfl (fun K hK => ?_) AllReadyH.nil
  go_simp
  refine hK.out _ _ (by (try dsimp only); first | exact hHeld | exact HS1.out | exact HS2.out | exact KL.out _ _ _ _ _ HS2.out) (fun hHeld => ?_)
  clear hK K
  try simp only [Act.put, List.setIfInBounds_toArray, List.set]
  refine wpAnyH_done (by kernel_rfl) ?_ _
  clear hHeld
  go_wp2_with fail
  refine bodyPost_ret (results_r rfl _ rfl (HY2.out.set4 _ _ _ _)) rfl ?_
  exact ⟨rfl, below4 B2.out (by omega) _ _ _ _⟩
end Go.Proofs.Ytkcjbehfhcmiaaa
