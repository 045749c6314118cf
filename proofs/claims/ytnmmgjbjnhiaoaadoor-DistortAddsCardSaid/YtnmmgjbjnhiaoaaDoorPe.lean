/-
  Layer 14: the code's block: Size, Value, Set and the flags.
-/
import Derived.Test.YtnmmgjbjnhiaoaaDoorPd
set_option maxRecDepth 100000
namespace Go.Proofs.YtnmmgjbjnhiaoaaDoor
open Go.RowKit

theorem ptrB (w : World) (a : Addr) : (binOp .eql 64 (.pointer (some a)) (.pointer (some a))).run Tryd.prog w = .ok (.bool true) w := by
  obtain ⟨j, hj⟩ : ∃ j, Tryd.prog.info? 93 = some j := ⟨_, rfl⟩
  exact run_eql_ptr_same w a (te := 93) Tryd.underlying64 hj
theorem ptrBz (w : World) (a : Addr) : (binOp .eql 64 (.pointer none) (.pointer (some a))).run Tryd.prog w = .ok (.bool false) w := by
  have h : ∀ d : Nat, (Op.equalIn (d + 1) 64 (.pointer none) (.pointer (some a))).run Tryd.prog w = .ok false w := fun d => by
    simp [Op.equalIn, run_underlying (P := Tryd.prog) (t := 64) Tryd.underlying64]
  simp only [binOp]
  simp [Op.equal, Op.maxDepth, h 9999]
theorem made_y (a : Nat) (w : World) (h0 : w.cell? ⟨a, 6, none⟩ = some (.pointer (some ⟨a, 0, none⟩))) : Calls Tryd.prog 77 #[.pointer (some ⟨a, 0, none⟩)] w fun e w' => e = .returned (.bool true) ∧ w = w' := by
  have hp := fun W => ptrB W ⟨a, 0, none⟩
  go_enter Tryd.func77, Tryd.ntmps77
  go_wp2_with fail
  go_ret
  exact ⟨rfl, rfl⟩
theorem made_n (w : World) : Calls Tryd.prog 77 #[.pointer none] w fun e w' => e = .returned (.bool false) ∧ w = w' := by
  go_enter Tryd.func77, Tryd.ntmps77
  go_wp2_with fail
  go_ret
  exact ⟨rfl, rfl⟩
theorem made_z (a : Nat) (w : World) (h0 : w.cell? ⟨a, 6, none⟩ = some (.pointer none)) : Calls Tryd.prog 77 #[.pointer (some ⟨a, 0, none⟩)] w fun e w' => e = .returned (.bool false) ∧ w = w' := by
  have hp := fun W => ptrBz W ⟨a, 0, none⟩
  go_enter Tryd.func77, Tryd.ntmps77
  go_wp2_with fail
  go_ret
  exact ⟨rfl, rfl⟩
def ix (w : Nat) (x y : Int) : Nat := (y + 1).toNat * (w + 2) + x.toNat + 1
theorem ix_is {w h : Nat} {x y : Int} (hin : inB w h x y) : ((ix w x y : Nat) : Int) = (((y + 1).toNat * (w + 2) : Nat) : Int) + x + 1 := by
  obtain ⟨h1, h2, h3, h4⟩ := hin
  unfold ix
  omega
theorem ix_lt {w h : Nat} {x y : Int} (hin : inB w h x y) : ix w x y < (w + 2) * (h + 2) := by
  obtain ⟨h1, h2, h3, h4⟩ := hin
  have := grid_lt (w := w + 2) (h := h + 2) (X := x.toNat + 1) (Y := (y + 1).toNat) (by omega) (by omega)
  unfold ix
  omega
theorem ix_small {w h : Nat} {x y : Int} (hf : fits (w : Int) (h : Int)) (hin : inB w h x y) : (y + 1).toNat * (w + 2) ≤ 4290 ∧ (w + 2) * (h + 2) ≤ 4356 := by
  obtain ⟨h1, h2, h3, h4⟩ := hin
  obtain ⟨f1, f2, f3, f4⟩ := hf
  have a := Nat.mul_le_mul (show (y + 1).toNat ≤ 65 by omega) (show w + 2 ≤ 66 by omega)
  have b := Nat.mul_le_mul (show w + 2 ≤ 66 by omega) (show h + 2 ≤ 66 by omega)
  omega
theorem row_c (a w : Nat) (W : World) (hw : w ≤ 64) (h0 : W.cell? ⟨a, 0, none⟩ = some (.int .i64 (w : Int))) : Calls Tryd.prog 78 #[.pointer (some ⟨a, 0, none⟩)] W fun e w' => e = .returned (.int .i64 ((w : Int) + 2)) ∧ W = w' := by
  go_enter Tryd.func78, Tryd.ntmps78
  go_wp2_with fail
  go_ret
  exact ⟨rfl, rfl⟩
section
variable {W : World} {B A V S T R w h : Nat} {q : St}
theorem find_y (H : Cb W B A V S T R w h q) (x y : Int) (hin : inB w h x y) : Calls Tryd.prog 60 #[.pointer (some ⟨A, 0, none⟩), .int .i64 x, .int .i64 y] W fun e w' => e = .returned (.tuple #[.int .i64 ((ix w x y : Nat) : Int), .int .i64 0]) ∧ W = w' := by
  obtain ⟨c0, c1, c2, c3, c4, c5, c6⟩ := H.cells
  have m := made_y A W c6
  have rw0 := row_c A w W (by have := H.fit; unfold fits at this; omega) c0
  obtain ⟨s1, s2⟩ := ix_small H.fit hin
  have e := ix_is hin
  obtain ⟨h1, h2, h3, h4⟩ := hin
  have hf : (w : Int) ≤ 64 ∧ (h : Int) ≤ 64 := by have := H.fit; unfold fits at this; omega
  obtain ⟨hf1, hf2⟩ := hf
  have wm : IntKind.i64.wrap ((y + 1) * ((w : Int) + 2)) = (((y + 1).toNat * (w + 2) : Nat) : Int) := by
    have e2 : (y + 1) * ((w : Int) + 2) = (((y + 1).toNat : Nat) : Int) * ((w + 2 : Nat) : Int) := by
      rw [show (((y + 1).toNat : Nat) : Int) = y + 1 by omega]; rfl
    rw [e2, ← Int.natCast_mul, IntWalk.i64_left]
    generalize (y + 1).toNat * (w + 2) = c at *
    unfold wrap64; omega
  rw [e]
  generalize (y + 1).toNat * (w + 2) = P at *
  clear e s2 H c2 c3 c4 c5 c6
  go_enter Tryd.func60, Tryd.ntmps60
  go_wp2_with (first | (go_at_call 77; (with_reducible refine m.mono ?_); rintro e wn ⟨rfl, rfl⟩) | (go_at_call 78; (with_reducible refine rw0.mono ?_); rintro e wn ⟨rfl, rfl⟩))
  go_ret2
  exact ⟨rfl, rfl⟩
theorem find_o (H : Cb W B A V S T R w h q) (x y : Int) (hin : ¬ inB w h x y) : Calls Tryd.prog 60 #[.pointer (some ⟨A, 0, none⟩), .int .i64 x, .int .i64 y] W fun e w' => e = .returned (.tuple #[.int .i64 0, .int .i64 2]) ∧ W = w' := by
  obtain ⟨c0, c1, c2, c3, c4, c5, c6⟩ := H.cells
  have m := made_y A W c6
  have hc : x < 0 ∨ (0 ≤ x ∧ (w : Int) ≤ x) ∨ (0 ≤ x ∧ x < w ∧ y < 0) ∨ (0 ≤ x ∧ x < w ∧ 0 ≤ y ∧ (h : Int) ≤ y) := by unfold inB at hin; omega
  clear hin H c2 c3 c4 c5 c6
  rcases hc with h1 | ⟨h1, h2⟩ | ⟨h1, h2, h3⟩ | ⟨h1, h2, h3, h4⟩ <;>
   (go_enter Tryd.func60, Tryd.ntmps60
    go_wp2_with (first | (go_at_call 77; (with_reducible refine m.mono ?_); rintro e wn ⟨rfl, rfl⟩))
    go_ret2
    exact ⟨rfl, rfl⟩)
theorem size_c (H : Cb W B A V S T R w h q) : Calls Tryd.prog 70 #[.pointer (some ⟨A, 0, none⟩)] W fun e w' => e = .returned (.tuple #[.int .i64 (w : Int), .int .i64 (h : Int)]) ∧ Below W.heap.size W w' := by
  obtain ⟨c0, c1, c2, c3, c4, c5, c6⟩ := H.cells
  have m := made_y A W c6
  clear H c2 c3 c4 c5 c6
  go_enter Tryd.func70, Tryd.ntmps70
  go_wp2_with (first | (go_at_call 77; (with_reducible refine m.mono ?_); rintro e wn ⟨rfl, rfl⟩))
  go_quiet (fail)
  go_wp2_with fail
  go_ret2
  exact ⟨rfl, drewN_below _ _⟩
theorem value_c (H : Cb W B A V S T R w h q) (x y : Int) : Calls Tryd.prog 39 #[.pointer (some ⟨A, 0, none⟩), .int .i64 x, .int .i64 y] W fun e w' => e = .returned (.int .i64 (q.v x y)) ∧ W = w' := by
  by_cases hin : inB w h x y
  · have f := find_y H x y hin
    obtain ⟨c0, c1, c2, c3, c4, c5, c6⟩ := H.cells
    have d := H.gv.at (x := x) (y := y) (by unfold inB at hin; omega) (by unfold inB at hin; omega) (ix_is hin)
    have lt := ix_lt hin
    generalize ix w x y = i at *
    generalize (w + 2) * (h + 2) = N at *
    clear H hin c0 c1 c3 c4 c5 c6
    go_enter Tryd.func39, Tryd.ntmps39
    go_wp2_with (first | (go_at_call 60; (with_reducible refine f.mono ?_); rintro e wn ⟨rfl, rfl⟩))
    go_ret
    exact ⟨rfl, rfl⟩
  · have f := find_o H x y hin
    rw [(H.out x y hin).1]
    clear H hin
    go_enter Tryd.func39, Tryd.ntmps39
    go_wp2_with (first | (go_at_call 60; (with_reducible refine f.mono ?_); rintro e wn ⟨rfl, rfl⟩))
    go_ret
    exact ⟨rfl, rfl⟩
theorem significant_c (H : Cb W B A V S T R w h q) (x y : Int) : Calls Tryd.prog 83 #[.pointer (some ⟨A, 0, none⟩), .int .i64 x, .int .i64 y] W fun e w' => e = .returned (.bool (q.s x y)) ∧ W = w' := by
  by_cases hin : inB w h x y
  · have f := find_y H x y hin
    obtain ⟨c0, c1, c2, c3, c4, c5, c6⟩ := H.cells
    have d := H.gs.at (x := x) (y := y) (by unfold inB at hin; omega) (by unfold inB at hin; omega) (ix_is hin)
    have lt := ix_lt hin
    generalize ix w x y = i at *
    generalize (w + 2) * (h + 2) = N at *
    generalize q.s x y = z at *
    clear H hin c0 c1 c2 c4 c5 c6
    cases z <;>
     (unfold b8 at d
      simp at d
      go_enter Tryd.func83, Tryd.ntmps83
      go_wp2_with (first | (go_at_call 60; (with_reducible refine f.mono ?_); rintro e wn ⟨rfl, rfl⟩))
      go_ret
      exact ⟨rfl, rfl⟩)
  · have f := find_o H x y hin
    rw [(H.out x y hin).2.1]
    clear H hin
    go_enter Tryd.func83, Tryd.ntmps83
    go_wp2_with (first | (go_at_call 60; (with_reducible refine f.mono ?_); rintro e wn ⟨rfl, rfl⟩))
    go_ret
    exact ⟨rfl, rfl⟩
theorem touched_c (H : Cb W B A V S T R w h q) (x y : Int) : Calls Tryd.prog 40 #[.pointer (some ⟨A, 0, none⟩), .int .i64 x, .int .i64 y] W fun e w' => e = .returned (.bool (q.t x y)) ∧ W = w' := by
  by_cases hin : inB w h x y
  · have f := find_y H x y hin
    obtain ⟨c0, c1, c2, c3, c4, c5, c6⟩ := H.cells
    have d := H.gt.at (x := x) (y := y) (by unfold inB at hin; omega) (by unfold inB at hin; omega) (ix_is hin)
    have lt := ix_lt hin
    generalize ix w x y = i at *
    generalize (w + 2) * (h + 2) = N at *
    generalize q.t x y = z at *
    clear H hin c0 c1 c2 c3 c5 c6
    go_enter Tryd.func40, Tryd.ntmps40
    go_wp2_with (first | (go_at_call 60; (with_reducible refine f.mono ?_); rintro e wn ⟨rfl, rfl⟩))
    go_ret
    exact ⟨rfl, rfl⟩
  · have f := find_o H x y hin
    rw [(H.out x y hin).2.2.1]
    clear H hin
    go_enter Tryd.func40, Tryd.ntmps40
    go_wp2_with (first | (go_at_call 60; (with_reducible refine f.mono ?_); rintro e wn ⟨rfl, rfl⟩))
    go_ret
    exact ⟨rfl, rfl⟩
theorem refined_c (H : Cb W B A V S T R w h q) (x y : Int) : Calls Tryd.prog 88 #[.pointer (some ⟨A, 0, none⟩), .int .i64 x, .int .i64 y] W fun e w' => e = .returned (.bool (q.r x y)) ∧ W = w' := by
  by_cases hin : inB w h x y
  · have f := find_y H x y hin
    obtain ⟨c0, c1, c2, c3, c4, c5, c6⟩ := H.cells
    have d := H.gr.at (x := x) (y := y) (by unfold inB at hin; omega) (by unfold inB at hin; omega) (ix_is hin)
    have lt := ix_lt hin
    generalize ix w x y = i at *
    generalize (w + 2) * (h + 2) = N at *
    generalize q.r x y = z at *
    clear H hin c0 c1 c2 c3 c4 c6
    go_enter Tryd.func88, Tryd.ntmps88
    go_wp2_with (first | (go_at_call 60; (with_reducible refine f.mono ?_); rintro e wn ⟨rfl, rfl⟩))
    go_ret
    exact ⟨rfl, rfl⟩
  · have f := find_o H x y hin
    rw [(H.out x y hin).2.2.2]
    clear H hin
    go_enter Tryd.func88, Tryd.ntmps88
    go_wp2_with (first | (go_at_call 60; (with_reducible refine f.mono ?_); rintro e wn ⟨rfl, rfl⟩))
    go_ret
    exact ⟨rfl, rfl⟩
/-- What a change returns, and leaves. -/
def CGives (B A V S T R w h : Nat) (q : St) (c : Int) (W : World) (e : Ending) (W' : World) : Prop := e = .returned (.int .i64 c) ∧ Cb W' B A V S T R w h q ∧ Kb [V, S, T, R] W W'
def okV (v : Int) : Prop := -1152921504606846976 < v ∧ v < 1152921504606846976
instance (v : Int) : Decidable (okV v) := by unfold okV; infer_instance
def setQ (w h : Nat) (q : St) (x y v : Int) : St := if inB w h x y ∧ okV v then { q with v := upd q.v x y v } else q
def setE (w h : Nat) (x y v : Int) : Int := if inB w h x y ∧ okV v then 0 else 2
def atE (w h : Nat) (x y : Int) : Int := if inB w h x y then 0 else 2
def markQ (w h : Nat) (q : St) (x y : Int) : St := if inB w h x y then { q with s := upd q.s x y true } else q
def touchQ (w h : Nat) (q : St) (x y : Int) (b : Bool) : St := if inB w h x y then { q with t := upd q.t x y b } else q
def refineQ (w h : Nat) (q : St) (x y : Int) : St := if inB w h x y then { q with r := upd q.r x y true } else q
theorem Cb.stay (H : Cb W B A V S T R w h q) : Cb W B A V S T R w h q ∧ Kb [V, S, T, R] W W := ⟨H, Kb.refl _ _⟩
theorem upd_map {α β : Type} (F : α → β) (f : Int → Int → α) (x y : Int) (a : α) : upd (fun X Y => F (f X Y)) x y (F a) = fun X Y => F (upd f x y a X Y) := by
  funext X Y
  unfold upd
  split <;> rfl
theorem Cb.setv (H : Cb W B A V S T R w h q) {x y : Int} (hin : inB w h x y) (v : Int) : Cb (W.setCell ⟨V, ix w x y, none⟩ (.int .i64 v)) B A V S T R w h { q with v := upd q.v x y v } ∧ Kb [V, S, T, R] W (W.setCell ⟨V, ix w x y, none⟩ (.int .i64 v)) := by
  have k1 : Kb [V] W (W.setCell ⟨V, ix w x y, none⟩ (.int .i64 v)) := Kb.set _ _ _ (by simp) _
  have nA : A ≠ V := fun e => H.gv.neb H.obj (by decide) e.symm
  have nS : S ≠ V := fun e => H.gv.ne H.gs (by decide) e.symm
  have nT : T ≠ V := fun e => H.gv.ne H.gt (by decide) e.symm
  have nR : R ≠ V := fun e => H.gv.ne H.gr (by decide) e.symm
  have g := H.gv.put (x := x) (y := y) (by unfold inB at hin; omega) (by unfold inB at hin; omega) (ix_is hin) (.int .i64 v)
  rw [upd_map (fun a => Value.int .i64 a)] at g
  have b := fun k (hk : k < W.heap.size) (hne : k ≠ V) => k1.block k hk (by simp [hne])
  exact ⟨⟨H.fit, H.geA, H.geV, H.geS, H.geT, H.geR, (b A H.obj.lt nA).trans H.obj, g, H.gs.keep (b S H.gs.lt nS), H.gt.keep (b T H.gt.lt nT), H.gr.keep (b R H.gr.lt nR), H.tr, H.out.set hin v⟩, Kb.set _ _ _ (by simp) _⟩
theorem Cb.marks (H : Cb W B A V S T R w h q) {x y : Int} (hin : inB w h x y) : Cb (W.setCell ⟨S, ix w x y, none⟩ (.int .u8 1)) B A V S T R w h { q with s := upd q.s x y true } ∧ Kb [V, S, T, R] W (W.setCell ⟨S, ix w x y, none⟩ (.int .u8 1)) := by
  have k1 : Kb [S] W (W.setCell ⟨S, ix w x y, none⟩ (.int .u8 1)) := Kb.set _ _ _ (by simp) _
  have nA : A ≠ S := fun e => H.gs.neb H.obj (by decide) e.symm
  have nV : V ≠ S := fun e => H.gv.ne H.gs (by decide) e
  have nT : T ≠ S := fun e => H.gs.ne H.gt (by decide) e.symm
  have nR : R ≠ S := fun e => H.gs.ne H.gr (by decide) e.symm
  have g := H.gs.put (x := x) (y := y) (by unfold inB at hin; omega) (by unfold inB at hin; omega) (ix_is hin) (.int .u8 1)
  rw [show Value.int .u8 1 = Value.int .u8 (b8 true) from rfl, upd_map (fun a => Value.int .u8 (b8 a))] at g
  have b := fun k (hk : k < W.heap.size) (hne : k ≠ S) => k1.block k hk (by simp [hne])
  exact ⟨⟨H.fit, H.geA, H.geV, H.geS, H.geT, H.geR, (b A H.obj.lt nA).trans H.obj, H.gv.keep (b V H.gv.lt nV), g, H.gt.keep (b T H.gt.lt nT), H.gr.keep (b R H.gr.lt nR), H.tr, H.out.mark hin true⟩, Kb.set _ _ _ (by simp) _⟩
theorem Cb.touches (H : Cb W B A V S T R w h q) {x y : Int} (hin : inB w h x y) (c : Bool) : Cb (W.setCell ⟨T, ix w x y, none⟩ (.bool c)) B A V S T R w h { q with t := upd q.t x y c } ∧ Kb [V, S, T, R] W (W.setCell ⟨T, ix w x y, none⟩ (.bool c)) := by
  have k1 : Kb [T] W (W.setCell ⟨T, ix w x y, none⟩ (.bool c)) := Kb.set _ _ _ (by simp) _
  have nA : A ≠ T := fun e => H.gt.neb H.obj (by decide) e.symm
  have nV : V ≠ T := fun e => H.gv.ne H.gt (by decide) e
  have nS : S ≠ T := fun e => H.gs.ne H.gt (by decide) e
  have nR : R ≠ T := fun e => H.tr e.symm
  have g := H.gt.put (x := x) (y := y) (by unfold inB at hin; omega) (by unfold inB at hin; omega) (ix_is hin) (.bool c)
  rw [upd_map (fun a => Value.bool a)] at g
  have b := fun k (hk : k < W.heap.size) (hne : k ≠ T) => k1.block k hk (by simp [hne])
  exact ⟨⟨H.fit, H.geA, H.geV, H.geS, H.geT, H.geR, (b A H.obj.lt nA).trans H.obj, H.gv.keep (b V H.gv.lt nV), H.gs.keep (b S H.gs.lt nS), g, H.gr.keep (b R H.gr.lt nR), H.tr, H.out.touch hin c⟩, Kb.set _ _ _ (by simp) _⟩
theorem Cb.refines (H : Cb W B A V S T R w h q) {x y : Int} (hin : inB w h x y) : Cb (W.setCell ⟨R, ix w x y, none⟩ (.bool true)) B A V S T R w h { q with r := upd q.r x y true } ∧ Kb [V, S, T, R] W (W.setCell ⟨R, ix w x y, none⟩ (.bool true)) := by
  have k1 : Kb [R] W (W.setCell ⟨R, ix w x y, none⟩ (.bool true)) := Kb.set _ _ _ (by simp) _
  have nA : A ≠ R := fun e => H.gr.neb H.obj (by decide) e.symm
  have nV : V ≠ R := fun e => H.gv.ne H.gr (by decide) e
  have nS : S ≠ R := fun e => H.gs.ne H.gr (by decide) e
  have nT : T ≠ R := H.tr
  have g := H.gr.put (x := x) (y := y) (by unfold inB at hin; omega) (by unfold inB at hin; omega) (ix_is hin) (.bool true)
  rw [upd_map (fun a => Value.bool a)] at g
  have b := fun k (hk : k < W.heap.size) (hne : k ≠ R) => k1.block k hk (by simp [hne])
  exact ⟨⟨H.fit, H.geA, H.geV, H.geS, H.geT, H.geR, (b A H.obj.lt nA).trans H.obj, H.gv.keep (b V H.gv.lt nV), H.gs.keep (b S H.gs.lt nS), H.gt.keep (b T H.gt.lt nT), g, H.tr, H.out.refine hin true⟩, Kb.set _ _ _ (by simp) _⟩
theorem set_c (H : Cb W B A V S T R w h q) (x y v : Int) : Calls Tryd.prog 95 #[.pointer (some ⟨A, 0, none⟩), .int .i64 x, .int .i64 y, .int .i64 v] W (CGives B A V S T R w h (setQ w h q x y v) (setE w h x y v) W) := by
  by_cases hin : inB w h x y
  · have f := find_y H x y hin
    by_cases hv : okV v
    · obtain ⟨c0, c1, c2, c3, c4, c5, c6⟩ := H.cells
      have fz := H.gv.free
      have lt := ix_lt hin
      have N1 := Lib.hid (H.setv hin v)
      have e1 : setQ w h q x y v = { q with v := upd q.v x y v } := by unfold setQ; rw [if_pos ⟨hin, hv⟩]
      have e2 : setE w h x y v = 0 := by unfold setE; rw [if_pos ⟨hin, hv⟩]
      rw [e1, e2]
      obtain ⟨v1, v2⟩ := hv
      have d := H.gv.at (x := x) (y := y) (by unfold inB at hin; omega) (by unfold inB at hin; omega) (ix_is hin)
      generalize ix w x y = i at *
      generalize (w + 2) * (h + 2) = N at *
      clear H hin c0 c1 c3 c4 c5 c6 e1 e2
      go_enter Tryd.func95, Tryd.ntmps95
      go_wp2_with (first | (go_at_call 60; (with_reducible refine f.mono ?_); rintro e wn ⟨rfl, rfl⟩))
      go_ret
      exact ⟨rfl, N1.out⟩
    · have e1 : setQ w h q x y v = q := by unfold setQ; rw [if_neg (fun h => hv h.2)]
      have e2 : setE w h x y v = 2 := by unfold setE; rw [if_neg (fun h => hv h.2)]
      rw [e1, e2]
      have N1 := Lib.hid H.stay
      have hc : v ≤ -1152921504606846976 ∨ (-1152921504606846976 < v ∧ 1152921504606846976 ≤ v) := by unfold okV at hv; omega
      clear H hin hv e1 e2
      rcases hc with v1 | ⟨v1, v2⟩ <;>
       (go_enter Tryd.func95, Tryd.ntmps95
        go_wp2_with (first | (go_at_call 60; (with_reducible refine f.mono ?_); rintro e wn ⟨rfl, rfl⟩))
        go_ret
        exact ⟨rfl, N1.out⟩)
  · have f := find_o H x y hin
    have e1 : setQ w h q x y v = q := by unfold setQ; rw [if_neg (fun h => hin h.1)]
    have e2 : setE w h x y v = 2 := by unfold setE; rw [if_neg (fun h => hin h.1)]
    rw [e1, e2]
    have N1 := Lib.hid H.stay
    clear H hin e1 e2
    go_enter Tryd.func95, Tryd.ntmps95
    go_wp2_with (first | (go_at_call 60; (with_reducible refine f.mono ?_); rintro e wn ⟨rfl, rfl⟩))
    go_ret
    exact ⟨rfl, N1.out⟩
theorem mark_c (H : Cb W B A V S T R w h q) (x y : Int) : Calls Tryd.prog 101 #[.pointer (some ⟨A, 0, none⟩), .int .i64 x, .int .i64 y] W (CGives B A V S T R w h (markQ w h q x y) (atE w h x y) W) := by
  by_cases hin : inB w h x y
  · have f := find_y H x y hin
    obtain ⟨c0, c1, c2, c3, c4, c5, c6⟩ := H.cells
    have fz := H.gs.free
    have lt := ix_lt hin
    have N1 := Lib.hid (H.marks hin)
    have e1 : markQ w h q x y = { q with s := upd q.s x y true } := by unfold markQ; rw [if_pos hin]
    have e2 : atE w h x y = 0 := by unfold atE; rw [if_pos hin]
    rw [e1, e2]
    have d := H.gs.at (x := x) (y := y) (by unfold inB at hin; omega) (by unfold inB at hin; omega) (ix_is hin)
    generalize ix w x y = i at *
    generalize (w + 2) * (h + 2) = N at *
    clear H hin e1 e2
    go_enter Tryd.func101, Tryd.ntmps101
    go_wp2_with (first | (go_at_call 60; (with_reducible refine f.mono ?_); rintro e wn ⟨rfl, rfl⟩))
    go_ret
    exact ⟨rfl, N1.out⟩
  · have f := find_o H x y hin
    have e1 : markQ w h q x y = q := by unfold markQ; rw [if_neg hin]
    have e2 : atE w h x y = 2 := by unfold atE; rw [if_neg hin]
    rw [e1, e2]
    have N1 := Lib.hid H.stay
    clear H hin e1 e2
    go_enter Tryd.func101, Tryd.ntmps101
    go_wp2_with (first | (go_at_call 60; (with_reducible refine f.mono ?_); rintro e wn ⟨rfl, rfl⟩))
    go_ret
    exact ⟨rfl, N1.out⟩
theorem touch_c (H : Cb W B A V S T R w h q) (x y : Int) (c : Bool) : Calls Tryd.prog 86 #[.pointer (some ⟨A, 0, none⟩), .int .i64 x, .int .i64 y, .bool c] W (CGives B A V S T R w h (touchQ w h q x y c) (atE w h x y) W) := by
  by_cases hin : inB w h x y
  · have f := find_y H x y hin
    obtain ⟨c0, c1, c2, c3, c4, c5, c6⟩ := H.cells
    have fz := H.gt.free
    have lt := ix_lt hin
    have N1 := Lib.hid (H.touches hin c)
    have e1 : touchQ w h q x y c = { q with t := upd q.t x y c } := by unfold touchQ; rw [if_pos hin]
    have e2 : atE w h x y = 0 := by unfold atE; rw [if_pos hin]
    rw [e1, e2]
    have d := H.gt.at (x := x) (y := y) (by unfold inB at hin; omega) (by unfold inB at hin; omega) (ix_is hin)
    generalize ix w x y = i at *
    generalize (w + 2) * (h + 2) = N at *
    clear H hin e1 e2
    go_enter Tryd.func86, Tryd.ntmps86
    go_wp2_with (first | (go_at_call 60; (with_reducible refine f.mono ?_); rintro e wn ⟨rfl, rfl⟩))
    go_ret
    exact ⟨rfl, N1.out⟩
  · have f := find_o H x y hin
    have e1 : touchQ w h q x y c = q := by unfold touchQ; rw [if_neg hin]
    have e2 : atE w h x y = 2 := by unfold atE; rw [if_neg hin]
    rw [e1, e2]
    have N1 := Lib.hid H.stay
    clear H hin e1 e2
    go_enter Tryd.func86, Tryd.ntmps86
    go_wp2_with (first | (go_at_call 60; (with_reducible refine f.mono ?_); rintro e wn ⟨rfl, rfl⟩))
    go_ret
    exact ⟨rfl, N1.out⟩
theorem refine_c (H : Cb W B A V S T R w h q) (x y : Int) : Calls Tryd.prog 90 #[.pointer (some ⟨A, 0, none⟩), .int .i64 x, .int .i64 y] W (CGives B A V S T R w h (refineQ w h q x y) (atE w h x y) W) := by
  by_cases hin : inB w h x y
  · have f := find_y H x y hin
    obtain ⟨c0, c1, c2, c3, c4, c5, c6⟩ := H.cells
    have fz := H.gr.free
    have lt := ix_lt hin
    have N1 := Lib.hid (H.refines hin)
    have e1 : refineQ w h q x y = { q with r := upd q.r x y true } := by unfold refineQ; rw [if_pos hin]
    have e2 : atE w h x y = 0 := by unfold atE; rw [if_pos hin]
    rw [e1, e2]
    have d := H.gr.at (x := x) (y := y) (by unfold inB at hin; omega) (by unfold inB at hin; omega) (ix_is hin)
    generalize ix w x y = i at *
    generalize (w + 2) * (h + 2) = N at *
    clear H hin e1 e2
    go_enter Tryd.func90, Tryd.ntmps90
    go_wp2_with (first | (go_at_call 60; (with_reducible refine f.mono ?_); rintro e wn ⟨rfl, rfl⟩))
    go_ret
    exact ⟨rfl, N1.out⟩
  · have f := find_o H x y hin
    have e1 : refineQ w h q x y = q := by unfold refineQ; rw [if_neg hin]
    have e2 : atE w h x y = 2 := by unfold atE; rw [if_neg hin]
    rw [e1, e2]
    have N1 := Lib.hid H.stay
    clear H hin e1 e2
    go_enter Tryd.func90, Tryd.ntmps90
    go_wp2_with (first | (go_at_call 60; (with_reducible refine f.mono ?_); rintro e wn ⟨rfl, rfl⟩))
    go_ret
    exact ⟨rfl, N1.out⟩
end
end Go.Proofs.YtnmmgjbjnhiaoaaDoor
