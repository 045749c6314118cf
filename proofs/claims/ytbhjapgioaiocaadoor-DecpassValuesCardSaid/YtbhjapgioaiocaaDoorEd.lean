/-
  Layer 15: the code's closure that appends a symbol; signs, bits with their signs, quiet columns, run lengths.
-/
import Derived.Test.YtbhjapgioaiocaaDoorEb
set_option maxRecDepth 100000
namespace Go.Proofs.YtbhjapgioaiocaaDoor
open Go.RowKit

/-- What a call of the coder leaves. -/
def EG (W0 W : World) (a : Adr) (p : Pp) (e : Es) (E : Ending) (W' : World) : Prop := E = .returned (.tuple #[]) ∧ Ec W0 W' a p e ∧ Kt W W'
def capV (a : Adr) : Array Value := #[.pointer (some ⟨a.G, 0, none⟩), .pointer (some ⟨a.L, 0, none⟩)]
set_option maxHeartbeats 1000000 in
theorem put_c {W0 W : World} {a : Adr} {p : Pp} {e : Es} (H : Ec W0 W a p e) (c b : Int) (hl : e.2.length ≤ 1000000) : Calls Tryd.prog 53 #[.int .i64 c, .int .i64 b, .pointer (some ⟨a.G, 0, none⟩), .pointer (some ⟨a.L, 0, none⟩)] W (EG W0 W a p (putS p e c b)) := by
  obtain ⟨i0, hi, hz0, hz1, hz2⟩ := info2_parts infoS
  obtain ⟨v, s1, s2⟩ := H.sv
  obtain ⟨s5, m5, rfl⟩ := own2_slice s2
  have c0 : W.cell? ⟨a.G, 0, none⟩ = some (.bool p.raw) := H.pg.cell 0
  have c1 : W.cell? ⟨a.L, 0, none⟩ = some (.slice s5 e.2.length m5) := s1.cell 0
  have fz := s1.free
  have hsz := H.kb.size
  have EQ : putS p e c b = (e.1, e.2 ++ [(cxP p c, b)]) := rfl
  have HG := fun (v' : Value) (X : Obj) (w2 : World) => H.grow (v' := v') (X := X) (c := cxP p c) (b := b) (w2 := w2) s1 s2
  rw [EQ]
  have hgr : ∀ (w2 : World) (X : Obj), (W.alloc X).grownBy w2 (Value.slice s5 e.2.length m5).ownBlock → w2.cell? ⟨a.L, 0, none⟩ = some (Value.slice s5 e.2.length m5) ∧ ∀ i, w2.frozen? ⟨a.L, i, none⟩ = false := fun w2 X hg => by
    have := (s1.alloc X).grown hg (fun he => own_blk_ne s2 s1 (by decide) he.symm)
    exact ⟨this.cell 0, this.free⟩
  obtain ⟨raw, hraw⟩ : ∃ r, r = p.raw := ⟨_, rfl⟩
  have ecx : cxP p c = if raw then -1 else c := by unfold cxP; rw [hraw]
  rw [← hraw] at c0
  rw [ecx] at HG ⊢
  have HL := Lib.hid hl
  have HZ := Lib.hid hsz
  have HS := Lib.hid s2
  clear ecx hraw hl hsz H EQ s1 s2
  cases raw <;>
   (go_enter Tryd.func53, Tryd.ntmps53
    go_wp2_with (first | (at_builtin; refine wpList_append_own_at _ rfl _ _ 35 rfl W0.heap.size 52 i0 (.agg #[.int .i64 0, .int .i64 0]) 2 16 Tryd.underlying35 hi hz0 hz1 hz2 rfl (by decide) _ e.2.length _ rfl (own2_below HS.out ((Below.refl _ _).alloc (Nat.le_refl _) _)) ⟨W.heap.size, 0, none⟩ 1 1 [.int .i64 _, .int .i64 b] rfl rfl (pt_new _ _ _ _) (by intro u hu; simp at hu; rcases hu with rfl | rfl <;> rfl) (by have := HL.out; unfold maxLen; omega) (by have := HL.out; omega) (by have := HZ.out; simp; omega) ?_))
    intro v' w2 hown hgrow _ _
    obtain ⟨s6, m6, rfl⟩ := own2_slice hown
    obtain ⟨d1, d2⟩ := hgr _ _ hgrow
    have HE := Lib.hid (HG _ _ _ hown hgrow)
    clear hown hgrow
    go_wp2_with fail
    go_end0
    exact ⟨rfl, HE.out⟩)
theorem markQ_v (w h : Nat) (q : St) (x y : Int) : (markQ w h q x y).v = q.v := by unfold markQ; split <;> rfl
theorem touchQ_v (w h : Nat) (q : St) (x y : Int) (b : Bool) : (touchQ w h q x y b).v = q.v := by unfold touchQ; split <;> rfl
theorem refineQ_v (w h : Nat) (q : St) (x y : Int) : (refineQ w h q x y).v = q.v := by unfold refineQ; split <;> rfl
theorem xor01 (a b : Int) (ha : a = 0 ∨ a = 1) (hb : b = 0 ∨ b = 1) : bits .xor .i64 a b = xorM a b := by
  rcases ha with rfl | rfl <;> rcases hb with rfl | rfl <;> decide
set_option maxHeartbeats 2000000 in
theorem sign_ce {W0 W : World} {a : Adr} {p : Pp} {e : Es} (H : Ec W0 W a p e) (x y : Int) (hin : inB p.w p.h x y) (hl : e.2.length ≤ 1000000) : Calls Tryd.prog 114 #[.pointer (some ⟨a.P, 0, none⟩), .int .i64 x, .int .i64 y] W (EG W0 W a p (signS p e x y)) := by
  have HD := H.below (Below.refl W.heap.size W).drew
  obtain ⟨c0, -, -, c3, -, -⟩ := ec_cells HD.pc
  have k1 := sgs_y HD.cb x y p.c hin
  have k2 := fun W T => Cx.sgn_c (sgH e.1 x y) (sgV e.1 x y p.c) W T
  have T0 := HD.tabs
  have HH := Lib.hid HD
  obtain ⟨C, hC⟩ : ∃ C, C = sgnC p e.1 x y := ⟨_, rfl⟩
  obtain ⟨F, hF⟩ : ∃ F, F = Cx.sgF (Cx.l1 (sgH e.1 x y)) (Cx.l1 (sgV e.1 x y p.c)) := ⟨_, rfl⟩
  obtain ⟨FF, hFF⟩ : ∃ FF, FF = sgnF p e.1 x y := ⟨_, rfl⟩
  obtain ⟨N, hN⟩ : ∃ N, N = negM (e.1.v x y) := ⟨_, rfl⟩
  have hF01 : FF = 0 ∨ FF = 1 := by rw [hFF]; exact sgnF_in _ _ _ _
  have hN01 : N = 0 ∨ N = 1 := by rw [hN]; exact negM_in _
  have EQ : signS p e x y = (markQ p.w p.h (putS p e C (xorM N FF)).1 x y, (putS p e C (xorM N FF)).2) := by unfold signS putS; rw [← hC, ← hFF, ← hN]
  have k3 : ∀ W T, Calls Tryd.prog 127 #[.int .i64 (sgH e.1 x y), .int .i64 (sgV e.1 x y p.c)] W fun e w' => e = .returned (.tuple #[.int .i64 C, .int .i64 F]) ∧ Below W.heap.size W w' := fun W T => by rw [hC, hF]; exact k2 W T
  rw [EQ]
  have X0 := xor01 N FF hN01 hF01
  have kp := fun W (K : Ec W0 W a p e) => put_c K C (xorM N FF) hl
  have kv := fun W (K : Ec W0 W a p e) => value_c K.cb x y
  have km : ∀ W, Ec W0 W a p (putS p e C (xorM N FF)) → Calls Tryd.prog 44 #[.pointer (some ⟨a.A, 0, none⟩), .int .i64 x, .int .i64 y] W fun E W' => E = .returned (.int .i64 (atE p.w p.h x y)) ∧ Ec W0 W' a p (markQ p.w p.h (putS p e C (xorM N FF)).1 x y, (putS p e C (xorM N FF)).2) ∧ Kt W W' := fun W K =>
    (mark_c K.cb x y).mono fun _ _ G => K.chg G (by rw [markQ_v]; exact K.ok)
  have fC : p.raw = true → FF = 0 := fun h => by rw [hFF]; unfold sgnF; rw [if_pos h]
  have fD : p.raw = false → FF = F := fun h => by rw [hFF, hF]; unfold sgnF; rw [if_neg (by rw [h]; decide)]
  have fN : e.1.v x y < 0 → N = 1 := fun h => by rw [hN]; unfold negM; rw [if_pos h]
  have fM : ¬ e.1.v x y < 0 → N = 0 := fun h => by rw [hN]; unfold negM; rw [if_neg h]
  obtain ⟨raw, hraw⟩ : ∃ r, r = p.raw := ⟨_, rfl⟩
  have fc4 : ∀ W, Ec W0 W a p e → W.cell? ⟨a.P, 4, none⟩ = some (.bool raw) := fun W K => by rw [hraw]; exact K.pc.cell 4
  rw [← hraw] at fC fD
  clear hC hF hFF hN EQ k2 H HD hin hl hF01 hN01 hraw
  generalize (putS p e C (xorM N FF)) = e1 at *
  generalize sgH e.1 x y = sh at *
  generalize sgV e.1 x y p.c = sv at *
  generalize e.1.v x y = v at *
  generalize atE p.w p.h x y = am at *
  generalize xorM N FF = XX at *
  cases raw <;> by_cases hv : v < 0
  all_goals
    first | (have e1 := fC rfl; subst e1) | (have e1 := fD rfl; subst e1)
    first | (have e2 := fN hv; subst e2) | (have e2 := fM hv; subst e2)
    clear fC fD fN fM
    go_enter Tryd.func114, Tryd.ntmps114
    go_wp2_with fail
    go_region_held3 (fun w' => w'.cell? ⟨a.P, 0, none⟩ = some (.pointer (some ⟨a.A, 0, none⟩)) ∧ w'.cell? ⟨a.P, 3, none⟩ = some (.bool p.c))
      (first | (with_reducible exact ⟨c0, c3⟩) | (with_reducible exact ⟨d0, d3⟩) | fail)
      (first | (go_simp; go_at_call 128; (with_reducible refine k1.mono ?_); rintro e wn ⟨rfl, rfl⟩) | (go_simp; go_at_call 127; (with_reducible refine (k3 _ T0).mono ?_); rintro e w1 ⟨rfl, hb⟩; have H1 := Lib.hid (HH.out.below hb); have K1 := Lib.hid (show Kt W w1 from kt_below (below_call (Below.refl W.heap.size W).drew hb)); obtain ⟨d0, -, -, d3, -, d5⟩ := ec_cells H1.out.pc) | fail)
  all_goals
    have f4 := fc4 _ H1.out
    have kv1 := kv _ H1.out
    have kp1 := kp _ H1.out
    clear hb
    go_wp2_with (first | (go_at_call 62; (with_reducible refine kv1.mono ?_); rintro e wn ⟨rfl, rfl⟩) | (go_at_call 53; (with_reducible refine kp1.mono ?_); rintro e w2 ⟨rfl, H2, K2⟩; have HH2 := Lib.hid H2; have K2 := Lib.hid (K1.out.trans K2); clear H2; obtain ⟨g0, -, -, -, -, -⟩ := ec_cells HH2.out.pc) | (go_at_call 44; (with_reducible refine (km _ HH2.out).mono ?_); rintro e w3 ⟨rfl, H3, K3⟩))
    go_end0
    exact ⟨rfl, H3, K2.out.trans K3⟩
end Go.Proofs.YtbhjapgioaiocaaDoor
