/-
  Layer 15: the reference: near, signs, bits with their signs.
-/
import Derived.Test.YtbhjapgioaiocaaDoorXa
set_option maxRecDepth 100000
namespace Go.Proofs.YtbhjapgioaiocaaDoor
open Go.RowKit

theorem nb_bnd (q : St) (x y : Int) (c : Bool) : 0 ≤ nbH q x y ∧ nbH q x y ≤ 2 ∧ 0 ≤ nbV q x y c ∧ nbV q x y c ≤ 2 ∧ 0 ≤ nbD q x y c ∧ nbD q x y c ≤ 4 := by
  unfold nbH nbV nbD
  have a1 := cn_in q (x - 1) (y - 1)
  have a2 := cn_in q x (y - 1)
  have a3 := cn_in q (x + 1) (y - 1)
  have a4 := cn_in q (x - 1) y
  have a6 := cn_in q (x + 1) y
  have a7 := cn_in q (x - 1) (y + 1)
  have a8 := cn_in q x (y + 1)
  have a9 := cn_in q (x + 1) (y + 1)
  refine ⟨by omega, by omega, ?_, ?_, ?_, ?_⟩
  all_goals (cases hid y c <;> simp <;> omega)
set_option maxHeartbeats 1000000 in
theorem xnear_c {W0 W : World} {a : Adx} {p : Pp} {m : Mo} {e : Es} (H : Xc W0 W a p m e) (x y : Int) (hin : inB p.w p.h x y) : Calls Tryd.prog 94 #[.pointer (some ⟨a.P, 0, none⟩), .int .i64 x, .int .i64 y] W fun E W' => E = .returned (.int .i64 (nbH e.1 x y + nbV e.1 x y p.c + nbD e.1 x y p.c)) ∧ Below W.heap.size W W' := by
  have HD := H.below (Below.refl W.heap.size W).drew
  obtain ⟨c0, -, -, c6, -, -⟩ := HD.cells
  have kn := rnb_y HD.rb x y p.c hin
  obtain ⟨a1, a2, b1, b2, d1, d2⟩ := nb_bnd e.1 x y p.c
  have B0 := Lib.hid (Below.refl W.heap.size W).drew
  generalize nbH e.1 x y = n1 at *
  generalize nbV e.1 x y p.c = n2 at *
  generalize nbD e.1 x y p.c = n3 at *
  have w1 : IntKind.i64.wrap (n1 + n2) = n1 + n2 := by rw [IntWalk.i64_left]; unfold wrap64; omega
  have w2 : IntKind.i64.wrap (n1 + n2 + n3) = n1 + n2 + n3 := by rw [IntWalk.i64_left]; unfold wrap64; omega
  clear a1 a2 b1 b2 d1 d2 H HD hin
  go_enter Tryd.func94, Tryd.ntmps94
  go_wp2_with fail
  go_region_held3 (fun w' => w'.cell? ⟨a.P, 0, none⟩ = some (.pointer (some ⟨a.A, 0, none⟩)) ∧ w'.cell? ⟨a.P, 6, none⟩ = some (.bool p.c))
    (first | (with_reducible exact ⟨c0, c6⟩) | (with_reducible exact ⟨d0, d6⟩) | fail)
    (first | (go_simp; go_at_call 117; (with_reducible refine kn.mono ?_); rintro e w1 ⟨rfl, hb⟩; have d0 := (hb.cell (p := ⟨a.P, 0, none⟩) (cell_lt c0)).trans c0; have d6 := (hb.cell (p := ⟨a.P, 6, none⟩) (cell_lt c6)).trans c6; have B1 := Lib.hid (below_call B0.out hb); clear hb) | fail)
  all_goals
    go_wp2_with fail
    go_ret
    exact ⟨rfl, B1.out⟩
theorem xsgn_c (h v : Int) (w : World) : Calls Tryd.prog 134 #[.int .i64 h, .int .i64 v] w fun e w' => e = .returned (.tuple #[.int .i64 (Cx.sgC (Cx.l1 h) (Cx.l1 v)), .int .i64 (Cx.sgF (Cx.l1 h) (Cx.l1 v))]) ∧ w = w' := Cx.sgnR_c h v w
set_option maxHeartbeats 4000000 in
theorem xsign_c {W0 W : World} {a : Adx} {p : Pp} {m : Mo} {e : Es} (H : Xc W0 W a p m e) (x y : Int) (hin : inB p.w p.h x y) (hl : e.2.length ≤ 1000000) : Calls Tryd.prog 119 #[.pointer (some ⟨a.P, 0, none⟩), .int .i64 x, .int .i64 y] W (XG W0 W a p m (signS p e x y)) := by
  obtain ⟨C, hC⟩ : ∃ C, C = sgnC p e.1 x y := ⟨_, rfl⟩
  obtain ⟨F, hF⟩ : ∃ F, F = Cx.sgF (Cx.l1 (sgH e.1 x y)) (Cx.l1 (sgV e.1 x y p.c)) := ⟨_, rfl⟩
  obtain ⟨FF, hFF⟩ : ∃ FF, FF = sgnF p e.1 x y := ⟨_, rfl⟩
  obtain ⟨N, hN⟩ : ∃ N, N = negM (e.1.v x y) := ⟨_, rfl⟩
  have hF01 : FF = 0 ∨ FF = 1 := by rw [hFF]; exact sgnF_in _ _ _ _
  have hN01 : N = 0 ∨ N = 1 := by rw [hN]; exact negM_in _
  have EQ : signS p e x y = (markQ p.w p.h (putS p e C (xorM N FF)).1 x y, (putS p e C (xorM N FF)).2) := by unfold signS putS; rw [← hC, ← hFF, ← hN]
  have k3 : ∀ W, Calls Tryd.prog 134 #[.int .i64 (sgH e.1 x y), .int .i64 (sgV e.1 x y p.c)] W fun e w' => e = .returned (.tuple #[.int .i64 C, .int .i64 F]) ∧ W = w' := fun W => by rw [hC, hF]; exact xsgn_c _ _ W
  rw [EQ]
  have X0 := xor01 N FF hN01 hF01
  have kp := fun W (K : Xc W0 W a p m e) => xput_c K C (xorM N FF) hl
  have kv := rvalue_c H.rb x y
  have ks := fun W (K : Xc W0 W a p m e) => rsgs_y K.rb x y p.c hin
  have km : ∀ W, Xc W0 W a p m (putS p e C (xorM N FF)) → Calls Tryd.prog 45 #[.pointer (some ⟨a.A, 0, none⟩), .int .i64 x, .int .i64 y] W fun E W' => E = .returned (.int .i64 (atE p.w p.h x y)) ∧ Xc W0 W' a p m (markQ p.w p.h (putS p e C (xorM N FF)).1 x y, (putS p e C (xorM N FF)).2) ∧ Kt W W' := fun W K =>
    (rmark_c K.rb x y).mono fun _ _ G => K.chg G (by rw [markQ_v]; exact K.ok)
  have fC : p.raw = true → FF = 0 := fun h => by rw [hFF]; unfold sgnF; rw [if_pos h]
  have fD : p.raw = false → FF = F := fun h => by rw [hFF, hF]; unfold sgnF; rw [if_neg (by rw [h]; decide)]
  have fN : e.1.v x y < 0 → N = 1 := fun h => by rw [hN]; unfold negM; rw [if_pos h]
  have fM : ¬ e.1.v x y < 0 → N = 0 := fun h => by rw [hN]; unfold negM; rw [if_neg h]
  obtain ⟨raw, hraw⟩ : ∃ r, r = p.raw := ⟨_, rfl⟩
  have fc8 : ∀ W, Xc W0 W a p m e → W.cell? ⟨a.P, 8, none⟩ = some (.bool raw) := fun W K => by rw [hraw]; exact K.cells.2.2.2.2.2
  rw [← hraw] at fC fD
  obtain ⟨c0, -, -, -, -, -⟩ := H.cells
  have HH := Lib.hid H
  clear hC hF hFF hN EQ H hin hl hF01 hN01 hraw
  generalize (putS p e C (xorM N FF)) = e1 at *
  generalize sgH e.1 x y = sh at *
  generalize sgV e.1 x y p.c = sv at *
  generalize e.1.v x y = v at *
  generalize atE p.w p.h x y = am at *
  generalize xorM N FF = XX at *
  cases raw <;> by_cases hv : v < 0
  all_goals
    first | (have e1 := fC rfl; subst e1) | (have e1 := fD rfl; subst e1)
    first | (have e2 := fN hv; subst e2) | (have e2 := fM hv; subst e2)
    clear fC fD fN fM
    go_enter Tryd.func119, Tryd.ntmps119
    go_wp2_with (first | (go_at_call 63; (with_reducible refine kv.mono ?_); rintro e w1 ⟨rfl, hb⟩; have H1 := Lib.hid (HH.out.below hb); have K1 := Lib.hid (kt_below hb); clear hb))
    have HD := Lib.hid (H1.out.below (Below.refl w1.heap.size w1).drew)
    clear c0
    obtain ⟨c0, -, -, c6, -, -⟩ := HD.out.cells
    have ks1 := ks _ HD.out
    go_region_held3 (fun w' => w'.cell? ⟨a.P, 0, none⟩ = some (.pointer (some ⟨a.A, 0, none⟩)) ∧ w'.cell? ⟨a.P, 6, none⟩ = some (.bool p.c))
      (first | (with_reducible exact ⟨c0, c6⟩) | (with_reducible exact ⟨d0, d6⟩) | fail)
      (first | (go_simp; go_at_call 133; (with_reducible refine ks1.mono ?_); rintro e w2 ⟨rfl, hb⟩; have H2 := Lib.hid (HD.out.below hb); have K2 := Lib.hid (K1.out.trans (kt_below (below_call (Below.refl w1.heap.size w1).drew hb))); obtain ⟨d0, -, -, d6, -, -⟩ := H2.out.cells; clear hb) | fail)
  all_goals
    have f8 := fc8 _ H2.out
    have kp1 := kp _ H2.out
    go_wp2_with (first | (go_at_call 134; (with_reducible refine (k3 _).mono ?_); rintro e wn ⟨rfl, rfl⟩) | (go_at_call 96; (with_reducible refine kp1.mono ?_); rintro e w3 ⟨rfl, H3, K3⟩; have HH3 := Lib.hid H3; have K3 := Lib.hid (K2.out.trans K3); clear H3; obtain ⟨g0, -, -, -, -, -⟩ := HH3.out.cells) | (go_at_call 45; (with_reducible refine (km _ HH3.out).mono ?_); rintro e w4 ⟨rfl, H4, K4⟩))
    go_end0
    exact ⟨rfl, H4, K3.out.trans K4⟩
set_option maxHeartbeats 4000000 in
theorem xcode_c {W0 W : World} {a : Adx} {p : Pp} {m : Mo} {e : Es} (H : Xc W0 W a p m e) (x y : Int) (hin : inB p.w p.h x y) (hl : e.2.length ≤ 999999) : Calls Tryd.prog 95 #[.pointer (some ⟨a.P, 0, none⟩), .int .i64 x, .int .i64 y] W (XG W0 W a p m (codeS p e x y)) := by
  have HD := H.below (Below.refl W.heap.size W).drew
  obtain ⟨c0, -, -, c6, -, -⟩ := HD.cells
  have kn := rnb_y HD.rb x y p.c hin
  have EQ0 : codeS p e x y = if bitM (e.1.v x y) p.s = 1 then signS p (putS p e (sigC p e.1 x y) (bitM (e.1.v x y) p.s)) x y else putS p e (sigC p e.1 x y) (bitM (e.1.v x y) p.s) := rfl
  obtain ⟨bt, hbt⟩ : ∃ b, b = bitM (e.1.v x y) p.s := ⟨_, rfl⟩
  obtain ⟨C, hC⟩ : ∃ c, c = sigC p e.1 x y := ⟨_, rfl⟩
  rw [← hbt, ← hC] at EQ0
  have hb01 : bt = 0 ∨ bt = 1 := by rw [hbt]; exact bitM_in _ _
  have kb : ∀ W, Xc W0 W a p m e → Calls Tryd.prog 98 #[.pointer (some ⟨a.P, 0, none⟩), .int .i64 x, .int .i64 y] W fun e w' => e = .returned (.int .i64 bt) ∧ Below W.heap.size W w' := fun W K => by rw [hbt]; exact xbit_c K x y
  have kg : ∀ W, Calls Tryd.prog 118 #[.int .i64 p.o, .int .i64 (nbH e.1 x y), .int .i64 (nbV e.1 x y p.c), .int .i64 (nbD e.1 x y p.c)] W fun e w' => e = .returned (.int .i64 C) ∧ W = w' := fun W => by rw [hC]; exact Cx.sigR_c _ _ _ _ W
  have kp := fun W (K : Xc W0 W a p m e) => xput_c K C bt (by omega)
  have ks := fun W (K : Xc W0 W a p m (putS p e C bt)) => xsign_c K x y hin (by unfold putS; simp; omega)
  rw [EQ0]
  have HH := Lib.hid HD
  have K0 := Lib.hid (kt_below (Below.refl W.heap.size W).drew)
  clear hC hbt EQ0 hin hl H HD
  generalize nbH e.1 x y = n1 at *
  generalize nbV e.1 x y p.c = n2 at *
  generalize nbD e.1 x y p.c = n3 at *
  have e2f : ∀ z : Es, (if bt = 1 then signS p z x y else z) = if bt = 1 then signS p z x y else z := fun _ => rfl
  rcases hb01 with rfl | rfl
  · rw [if_neg (by decide)]
    clear e2f
    generalize putS p e C 0 = e1 at *
    go_enter Tryd.func95, Tryd.ntmps95
    go_wp2_with fail
    go_region_held3 (fun w' => w'.cell? ⟨a.P, 0, none⟩ = some (.pointer (some ⟨a.A, 0, none⟩)) ∧ w'.cell? ⟨a.P, 6, none⟩ = some (.bool p.c))
      (first | (with_reducible exact ⟨c0, c6⟩) | (with_reducible exact ⟨d0, d6⟩) | fail)
      (first | (go_simp; go_at_call 117; (with_reducible refine kn.mono ?_); rintro e w1 ⟨rfl, hb⟩; have H1 := Lib.hid (HH.out.below hb); have K1 := Lib.hid (K0.out.trans (kt_below hb)); obtain ⟨d0, -, -, d6, -, -⟩ := H1.out.cells; clear hb) | fail)
    all_goals
      have kb1 := kb _ H1.out
      clear d0 d6
      go_wp2_with (first | (go_at_call 98; (with_reducible refine kb1.mono ?_); rintro e w2 ⟨rfl, hb⟩; have H2 := Lib.hid (H1.out.below hb); have K2 := Lib.hid (K1.out.trans (kt_below hb)); obtain ⟨-, -, f2, -, -, -⟩ := H2.out.cells; have kp2 := kp _ H2.out; clear hb) | (go_at_call 118; (with_reducible refine (kg _).mono ?_); rintro e wn ⟨rfl, rfl⟩) | (go_at_call 96; (with_reducible refine kp2.mono ?_); rintro e w3 ⟨rfl, H3, K3⟩))
      go_end0
      exact ⟨rfl, H3, K2.out.trans K3⟩
  · rw [if_pos rfl]
    clear e2f
    generalize putS p e C 1 = e1 at *
    generalize signS p e1 x y = e2 at *
    go_enter Tryd.func95, Tryd.ntmps95
    go_wp2_with fail
    go_region_held3 (fun w' => w'.cell? ⟨a.P, 0, none⟩ = some (.pointer (some ⟨a.A, 0, none⟩)) ∧ w'.cell? ⟨a.P, 6, none⟩ = some (.bool p.c))
      (first | (with_reducible exact ⟨c0, c6⟩) | (with_reducible exact ⟨d0, d6⟩) | fail)
      (first | (go_simp; go_at_call 117; (with_reducible refine kn.mono ?_); rintro e w1 ⟨rfl, hb⟩; have H1 := Lib.hid (HH.out.below hb); have K1 := Lib.hid (K0.out.trans (kt_below hb)); obtain ⟨d0, -, -, d6, -, -⟩ := H1.out.cells; clear hb) | fail)
    all_goals
      have kb1 := kb _ H1.out
      clear d0 d6
      go_wp2_with (first | (go_at_call 98; (with_reducible refine kb1.mono ?_); rintro e w2 ⟨rfl, hb⟩; have H2 := Lib.hid (H1.out.below hb); have K2 := Lib.hid (K1.out.trans (kt_below hb)); obtain ⟨-, -, f2, -, -, -⟩ := H2.out.cells; have kp2 := kp _ H2.out; clear hb) | (go_at_call 118; (with_reducible refine (kg _).mono ?_); rintro e wn ⟨rfl, rfl⟩) | (go_at_call 96; (with_reducible refine kp2.mono ?_); rintro e w3 ⟨rfl, H3, K3⟩; have H3 := Lib.hid H3; have K3 := Lib.hid (K2.out.trans K3); have ks3 := ks _ H3.out) | (go_at_call 119; (with_reducible refine ks3.mono ?_); rintro e w4 ⟨rfl, H4, K4⟩))
      go_end0
      exact ⟨rfl, H4, K3.out.trans K4⟩
end Go.Proofs.YtbhjapgioaiocaaDoor
