/-
  For all headers and parameters the statement ParamsBounds returns true.
  Conditions: none beyond those of the given statement.
-/
import Derived.Test.YtkcjbehfhcmiaaaHz2
import Derived.Test.YtkcjbehfhcmiaaaHg
import Derived.Test.YtkcjbehfhcmiaaaJp
import Derived.Test.YtkcjbehfhcmiaaaJo
import Derived.Test.YtkcjbehfhcmiaaaJb
set_option maxRecDepth 100000
namespace Go.Proofs.Ytkcjbehfhcmiaaa.paramsBounds
open Go.ChangeShapes Go.WideShapes Go.ChangeAt Go.RowKit Go.Joins Go.Deep

/-- What the walk keeps in memory. -/
structure BdS (W : World) (h : Hp.Hd) (p : Hp.Ps) (s : Option Addr) (m : Nat) (t : Option Addr) (n : Nat) (t2 : Option Addr) (n2 : Nat) (w : World) : Prop where
  bl : Below W.heap.size W w
  bh : Blk w W.heap.size 26 (hvA h s m)
  bp : Blk w (W.heap.size + 1) 35 (pvA p t n t2 n2)
  hC : HoldsC w s h.cs
  hP : HoldsP w t p.prec
  hS : HoldsI w t2 p.steps
theorem BdS.below {W : World} {h : Hp.Hd} {p : Hp.Ps} {s : Option Addr} {m : Nat} {t : Option Addr} {n : Nat} {t2 : Option Addr} {n2 : Nat} {w w' : World} (a : BdS W h p s m t n t2 n2 w) (hb : Below w.heap.size w w') : BdS W h p s m t n t2 n2 w' :=
  ⟨a.bl.trans (hb.mono a.bl.size), a.bh.below hb, a.bp.below hb, a.hC.below hb (Nat.le_refl _), a.hP.below hb (Nat.le_refl _), a.hS.below hb (Nat.le_refl _)⟩
theorem keepc {w w' : World} {b o : Nat} {v : Value} (h : w.cell? ⟨b, o, none⟩ = some v) (hb : Below w.heap.size w w') : w'.cell? ⟨b, o, none⟩ = some v := (hb.cell (p := ⟨b, o, none⟩) (cell_lt h)).trans h
set_option maxHeartbeats 16000000 in
theorem walk (h : Hp.Hd) (p : Hp.Ps) (s : Option Addr) (m : Nat) (t : Option Addr) (n : Nat) (t2 : Option Addr) (n2 : Nat) (W : World) (hC : HoldsC W s h.cs) (hP : HoldsP W t p.prec) (hS : HoldsI W t2 p.steps) :
    Calls Try.prog 7 #[.agg (hvA h s m), .agg (pvA p t n t2 n2)] W fun e w' => e = .returned (.bool true) ∧ Below W.heap.size W w' := by
  obtain ⟨WB, hWB⟩ : ∃ ww, ww = ((W.alloc (.cells (hvA h s m) 26)).alloc (.cells (pvA p t n t2 n2) 35)) := ⟨_, rfl⟩
  have hb0 : Below W.heap.size W WB := by rw [hWB]; exact below_alloc (below_alloc (Below.refl _ W) (Nat.le_refl _) _) (by simp) _
  have n1 := Blk.new W 26 (hvA h s m)
  have n2' := Blk.new (W.alloc (.cells (hvA h s m) 26)) 35 (pvA p t n t2 n2)
  have q1 : Blk WB W.heap.size 26 (hvA h s m) := by rw [hWB]; exact n1.alloc _
  have q2 : Blk WB (W.heap.size + 1) 35 (pvA p t n t2 n2) := by rw [hWB]; exact (show Blk _ (W.heap.size + 1) _ _ by simpa using n2')
  have A0 := Lib.hid (show BdS W h p s m t n t2 n2 WB from ⟨hb0, q1, q2, hC.below hb0 (Nat.le_refl _), hP.below hb0 (Nat.le_refl _), hS.below hb0 (Nat.le_refl _)⟩)
  have KF := Lib.hid (fun w : World => few_c h p s t t2 m n n2 w)
  have HW2 := hWB
  clear n1 n2' q1 q2 hb0 hWB hC hP hS
  show Calls Try.prog 7 #[.agg #[.int .i64 h.a, .int .i64 h.b, .int .i64 h.c, .int .i64 h.d, .int .i64 h.tw, .int .i64 h.th, .slice s h.cs.length m], .agg #[.int .i64 p.kern, .int .i64 p.lev, .int .i64 p.col, .int .i64 p.bx, .int .i64 p.yb, .slice t p.prec.length n, .int .i64 p.ord, .int .i64 p.lay, .bool p.m0, .bool p.m1, .bool p.m2, .bool p.m3, .bool p.m4, .bool p.dv, .bool p.sy, .bool p.fe, .slice t2 p.steps.length n2, .int .i64 p.dead, .int .i64 p.sh]] W _
  unfold hvA pvA at HW2
  by_cases hf : fewB h p = true
  case neg =>
    have hf : fewB h p = false := by simpa using hf
    rw [hf] at KF
    clear hf
    go_enter Try.func7, Try.ntmps7
    go_upto_region 1 with fail
    rw [← HW2]
    clear HW2
    go_wp2_with (first | (refine wpList_load_mid rfl 26 (.tmp 2) rfl W.heap.size 0 rfl (hvA h s m).toList _ A0.out.bh.range Try.underlying26 rfl info7 ?_) | (refine wpList_load_mid rfl 35 (.tmp 3) rfl (W.heap.size + 1) 0 rfl (pvA p t n t2 n2).toList _ A0.out.bp.range Try.underlying35 rfl info19 ?_) | (go_at_call 9; (with_reducible refine (KF.out _).mono ?_); rintro e w1 ⟨rfl, hb⟩; have A1 := Lib.hid (A0.out.below hb); clear hb) | (go_at_call 10; (with_reducible refine (awake23_c _).mono ?_); rintro e w2 ⟨rfl, hb⟩; have B2 := Lib.hid (A1.out.below hb).bl; clear hb) | fail)
    go_ret
    exact ⟨rfl, B2.out⟩
  case pos =>
  rw [hf] at KF
  have hlen := of_decide_eq_true (show decide (h.cs.length ≤ 10 ∧ p.steps.length ≤ 40 ∧ p.prec.length ≤ 40) = true from hf)
  have HLEN := Lib.hid hlen
  have hlen' : h.cs.length ≤ 4398046511104 ∧ p.prec.length ≤ 4398046511104 ∧ p.steps.length ≤ 4398046511104 := by omega
  have HB := Lib.hid hlen'
  clear hf hlen hlen'
  have KH := Lib.hid (fun (w : World) (a : BdS W h p s m t n t2 n2 w) => header_c h s m w HB.out.1 a.hC)
  have KC := Lib.hid (fun (w : World) (a : BdS W h p s m t n t2 n2 w) => check_c h p s t t2 m n n2 w HB.out.1 HB.out.2.1 HB.out.2.2 a.hC a.hP a.hS)
  have KP := Lib.hid (fun (w : World) (k : Int) (a : BdS W h p s m t n t2 n2 w) => planes_p p t t2 n n2 k w HB.out.2.2 a.hS)
  by_cases hz : Hp.headM h = 0
  case neg =>
    have e1 : (Hp.headM h == 0) = false := by simpa using hz
    have e2 : (Hp.headM h != 0) = true := by simpa using hz
    have e3 : decide (Hp.headM h = 0) = false := by simpa using hz
    generalize Hp.headM h = HM at *
    go_enter Try.func7, Try.ntmps7
    go_upto_region 1 with fail
    rw [← HW2]
    clear HW2
    go_wp2_with (first | (refine wpList_load_mid rfl 26 (.tmp 2) rfl W.heap.size 0 rfl (hvA h s m).toList _ A0.out.bh.range Try.underlying26 rfl info7 ?_) | (refine wpList_load_mid rfl 35 (.tmp 3) rfl (W.heap.size + 1) 0 rfl (pvA p t n t2 n2).toList _ A0.out.bp.range Try.underlying35 rfl info19 ?_) | (refine load_mid_g (by rfl) 26 (.tmp 2) rfl W.heap.size 0 rfl (hvA h s m).toList _ A1.out.bh.range Try.underlying26 rfl info7 ?_) | (go_at_call 9; (with_reducible refine (KF.out _).mono ?_); rintro e w1 ⟨rfl, hb⟩; have A1 := Lib.hid (A0.out.below hb); clear hb) | (go_at_call 24; (with_reducible refine (KH.out _ A1.out).mono ?_); rintro e w2 ⟨rfl, hb⟩; have A2 := Lib.hid (A1.out.below hb); clear hb) | (go_at_call 10; (with_reducible refine (awake23_c _).mono ?_); rintro e w3 ⟨rfl, hb⟩; have B3 := Lib.hid (A2.out.below hb).bl; clear hb) | fail)
    go_ret
    exact ⟨rfl, B3.out⟩
  case pos =>
  rw [hz] at KH
  have hT := tiles_ok hz
  have HCO := Lib.hid (fun (c : Hp.Cm) (hc : c ∈ h.cs) => comp_ok hz hc)
  have HPL := Lib.hid (fun (hz2 : Hp.chkM h p = 0) (k : Nat) (hk : k < p.steps.length) => plane_ok hz2 hk)
  obtain ⟨zd, _, _⟩ := head_zero hz
  obtain ⟨hvv, _, ⟨tw1, tw2⟩, ⟨th1, th2⟩, _, _⟩ := hdB_facts zd
  have KL := fun w : World => cells_c h.a h.b h.c h.d h.tw h.th w (by omega) (by omega)
  obtain ⟨L, hL⟩ : ∃ L, L = Pl.cellsL h.a h.b h.c h.d h.tw h.th := ⟨_, rfl⟩
  rw [← hL] at KL hT
  have ka := fun (V : Pl.R) (w : World) => area_c V.x0 V.y0 V.x1 V.y1 w
  have HT := Lib.hid hT
  have HKL := Lib.hid KL
  have HKA := Lib.hid ka
  have KA2 := Lib.hid (fun w : World => area_c h.a h.b h.c h.d w)
  have KR := Lib.hid (fun (c : Hp.Cm) (w : World) => red_c h.a h.b h.c h.d c.dx c.dy w)
  clear hz hT KL ka hL zd hvv tw1 tw2 th1 th2
  go_enter Try.func7, Try.ntmps7
  go_upto_region 1 with fail
  rw [← HW2]
  clear HW2
  go_upto_region 3 with (first | (refine wpList_load_mid rfl 26 (.tmp 2) rfl W.heap.size 0 rfl (hvA h s m).toList _ A0.out.bh.range Try.underlying26 rfl info7 ?_) | (refine wpList_load_mid rfl 35 (.tmp 3) rfl (W.heap.size + 1) 0 rfl (pvA p t n t2 n2).toList _ A0.out.bp.range Try.underlying35 rfl info19 ?_) | (refine load_mid_g (by rfl) 26 (.tmp 2) rfl W.heap.size 0 rfl (hvA h s m).toList _ A1.out.bh.range Try.underlying26 rfl info7 ?_) | (go_at_call 9; (with_reducible refine (KF.out _).mono ?_); rintro e w1 ⟨rfl, hb⟩; have A1 := Lib.hid (A0.out.below hb); clear hb) | (go_at_call 24; (with_reducible refine (KH.out _ A1.out).mono ?_); rintro e w2 ⟨rfl, hb⟩; have A2 := Lib.hid (A1.out.below hb); clear hb) | fail)
  clear A0 A1 KF KH
  obtain ⟨g0, g1, g2, g3, g4, g5, g6⟩ := A2.out.bh.hd
  go_upto_region 4 with (first | (go_at_call 25; (with_reducible refine (HKL.out _).mono ?_); rintro e w3 ⟨aL, cL, rfl, hHL, hb⟩; have A3 := Lib.hid (A2.out.below hb); have HL := Lib.hid hHL; clear hb hHL) | fail)
  clear g0 g1 g2 g3 g4 g5 g6 A2 HKL
  have l1 : ¬ (L.length : Int) < 1 := by have := HT.out.lo; omega
  have l2 : ¬ (1024 : Int) < (L.length : Int) := by have := HT.out.hi; omega
  have l1n : ¬ L.length < 1 := by have := HT.out.lo; omega
  have l2n : ¬ 1024 < L.length := by have := HT.out.hi; omega
  go_upto_region 8 with fail
  clear l1 l2 l1n l2n
  go_loopw [6, 7, 40] (fun v6 _ v40 wr => ∃ k : Nat, k ≤ L.length ∧ v40 = .int .i64 k ∧ v6 = .int .i64 (Pl.sumA (L.take k)) ∧ Hid (BdS W h p s m t n t2 n2 wr) ∧ Hid (Below w3.heap.size w3 wr)) (fun _ _ v _ => L.length - (intOf v).toNat)
  case atStart => exact ⟨0, Nat.zero_le _, rfl, by simp [Pl.sumA], A3, Lib.hid (Below.refl _ _)⟩
  case round =>
    obtain ⟨k, hk, rfl, rfl, HA, HBW⟩ := hrel
    clear A3
    by_cases hlt : k < L.length
    case pos =>
      have hlw := HL.out.below HBW.out (Nat.le_refl _)
      rcases hlw with z | ⟨b, off, rfl, hr⟩
      · rw [z] at hlt; simp at hlt
      obtain ⟨o1, o2⟩ := HT.out.one k hlt
      have hs := Pl.sumA_take L k hlt
      have hsb := Pl.sumA_bd (L.take k)
      have hab := Pl.areaR_bd L[k]
      have hlk : ((L.take k).length : Int) ≤ 1024 := by have := HT.out.hi; simp; omega
      obtain ⟨c0, c1, c2, c3⟩ := hr k hlt
      obtain ⟨g0, g1, g2, g3, g4, g5, g6⟩ := HA.out.bh.hd
      have HS := Lib.hid (show (fun w => w.cell? ⟨b, off + k * 4, none⟩ = some (.int .i64 L[k].x0) ∧ w.cell? ⟨b, off + k * 4 + 1, none⟩ = some (.int .i64 L[k].y0) ∧ w.cell? ⟨b, off + k * 4 + 2, none⟩ = some (.int .i64 L[k].x1) ∧ w.cell? ⟨b, off + k * 4 + 3, none⟩ = some (.int .i64 L[k].y1) ∧ w.cell? ⟨W.heap.size, 0, none⟩ = some (.int .i64 h.a) ∧ w.cell? ⟨W.heap.size, 1, none⟩ = some (.int .i64 h.b) ∧ w.cell? ⟨W.heap.size, 2, none⟩ = some (.int .i64 h.c) ∧ w.cell? ⟨W.heap.size, 3, none⟩ = some (.int .i64 h.d) ∧ Below w3.heap.size w3 w ∧ BdS W h p s m t n t2 n2 w) wr.drew from by dsimp only; exact ⟨c0, c1, c2, c3, g0, g1, g2, g3, HBW.out.drew, HA.out.below (Below.refl _ _).drew⟩)
      have HS2 := Lib.hid hs
      have ke := fun w : World => empty_c L[k].x0 L[k].y0 L[k].x1 L[k].y1 w
      have kc := fun w : World => cont_c h.a h.b h.c h.d L[k].x0 L[k].y0 L[k].x1 L[k].y1 w
      have kar := fun w : World => HKA.out L[k] w
      rw [o1] at ke
      rw [o2] at kc
      have ws : IntKind.i64.wrap (Pl.sumA (L.take k) + Pl.areaR L[k]) = Pl.sumA (L.take (k + 1)) := by
        rw [hs]; exact IntWalk.i64_in _ (by omega)
      have HWS := Lib.hid ws
      have KAR := Lib.hid (show ∀ w : World, Calls Try.prog 28 #[.agg #[.int .i64 L[k].x0, .int .i64 L[k].y0, .int .i64 L[k].x1, .int .i64 L[k].y1]] w fun e w' => e = .returned (.int .i64 (Pl.areaR L[k])) ∧ Below w.heap.size w w' from fun w => kar w)
      have hki : (k : Int) < (L.length : Int) := by omega
      have w2' : IntKind.i64.wrap ((k : Int) + 1) = (k : Int) + 1 := IntWalk.i64_in _ (by have := HT.out.hi; omega)
      have HBL := Lib.hid (HBW.out)
      clear ws hs HS2
      obtain ⟨SN, hSN⟩ : ∃ x, Pl.sumA (L.take (k + 1)) = x := ⟨_, rfl⟩
      rw [hSN] at HWS
      have HSN := Lib.hid hSN
      clear hSN
      generalize Pl.sumA (L.take k) = SK at *
      generalize Pl.areaR L[k] = AR at *
      generalize L[k] = V at *
      clear hr o1 o2 hsb hab hlk c0 c1 c2 c3 g0 g1 g2 g3 g4 g5 g6 HA kar
      go_upto_region 10 with fail
      refine wp_region_held_drew (S := (fun w => w.cell? ⟨b, off + k * 4, none⟩ = some (.int .i64 V.x0) ∧ w.cell? ⟨b, off + k * 4 + 1, none⟩ = some (.int .i64 V.y0) ∧ w.cell? ⟨b, off + k * 4 + 2, none⟩ = some (.int .i64 V.x1) ∧ w.cell? ⟨b, off + k * 4 + 3, none⟩ = some (.int .i64 V.y1) ∧ w.cell? ⟨W.heap.size, 0, none⟩ = some (.int .i64 h.a) ∧ w.cell? ⟨W.heap.size, 1, none⟩ = some (.int .i64 h.b) ∧ w.cell? ⟨W.heap.size, 2, none⟩ = some (.int .i64 h.c) ∧ w.cell? ⟨W.heap.size, 3, none⟩ = some (.int .i64 h.d) ∧ Below w3.heap.size w3 w ∧ BdS W h p s m t n t2 n2 w)) (by kernel_rfl) (by (try dsimp only); exact HS.out) (fun hHeld => ?_)
      refine takeD (i := 0) (oi := _) (some 43) (v := ?_) rfl rfl (by kernel_rfl) (by kernel_rfl) (by kernel_rfl) (fun _ _ _ h => h) (Or.inl ⟨by rfl, ?_⟩) (by assumption) ?_
      rotate_left
      · (intro w hSw; (try dsimp only at hSw); go_simp; try with_reducible rfl)
      simp only [Act.put, List.setIfInBounds_toArray, List.set]
      refine takeD (i := 1) (oi := _) (some 44) (v := ?_) rfl rfl (by kernel_rfl) (by kernel_rfl) (by kernel_rfl) (fun _ _ _ h => h) (Or.inl ⟨by rfl, ?_⟩) (by assumption) ?_
      rotate_left
      · (intro w hSw; (try dsimp only at hSw); go_simp; try with_reducible rfl)
      simp only [Act.put, List.setIfInBounds_toArray, List.set]
      refine takeD (i := 2) (oi := _) (some 45) (v := ?_) rfl rfl (by kernel_rfl) (by kernel_rfl) (by kernel_rfl) (fun _ _ _ h => h) (Or.inl ⟨by rfl, ?_⟩) (by assumption) ?_
      rotate_left
      · (intro w hSw; (try dsimp only at hSw); go_simp; try with_reducible rfl)
      simp only [Act.put, List.setIfInBounds_toArray, List.set]
      refine takeD (i := 3) (oi := _) (some 46) (v := ?_) rfl rfl (by kernel_rfl) (by kernel_rfl) (by kernel_rfl) (fun _ _ _ h => h) (Or.inl ⟨by rfl, ?_⟩) (by assumption) ?_
      rotate_left
      · (intro w hSw; (try dsimp only at hSw); go_simp; try with_reducible rfl)
      simp only [Act.put, List.setIfInBounds_toArray, List.set]
      refine wpAnyH_ready (rs := [4]) (by kernel_rfl) (by simp) ?_
      refine AllReadyH.cons (o := _) rfl (fun K hK => ?_) AllReadyH.nil
      (go_simp; go_at_call 26; (with_reducible refine (ke _).mono ?_); rintro e wn ⟨rfl, hbn⟩)
      refine hK.out _ _ (by (try dsimp only); first | exact hHeld | (obtain ⟨z0, z1, z2, z3, z4, z5, z6, z7, z9, z8⟩ := hHeld; exact ⟨keepc z0 hbn, keepc z1 hbn, keepc z2 hbn, keepc z3 hbn, keepc z4 hbn, keepc z5 hbn, keepc z6 hbn, keepc z7 hbn, z9.trans (hbn.mono z9.size), z8.below hbn⟩)) (fun hHeld => ?_)
      clear hK K
      try simp only [Act.put, List.setIfInBounds_toArray, List.set]
      refine takeD (i := 5) (oi := _) (some 48) (v := ?_) rfl rfl (by kernel_rfl) (by kernel_rfl) (by kernel_rfl) (fun _ _ _ h => h) (Or.inl ⟨by rfl, ?_⟩) (by assumption) ?_
      rotate_left
      · (intro w hSw; (try dsimp only at hSw); go_simp; try with_reducible rfl)
      simp only [Act.put, List.setIfInBounds_toArray, List.set]
      refine takeD (i := 6) (oi := _) (some 49) (v := ?_) rfl rfl (by kernel_rfl) (by kernel_rfl) (by kernel_rfl) (fun _ _ _ h => h) (Or.inl ⟨by rfl, ?_⟩) (by assumption) ?_
      rotate_left
      · (intro w hSw; (try dsimp only at hSw); go_simp; try with_reducible rfl)
      simp only [Act.put, List.setIfInBounds_toArray, List.set]
      refine takeD (i := 7) (oi := _) (some 50) (v := ?_) rfl rfl (by kernel_rfl) (by kernel_rfl) (by kernel_rfl) (fun _ _ _ h => h) (Or.inl ⟨by rfl, ?_⟩) (by assumption) ?_
      rotate_left
      · (intro w hSw; (try dsimp only at hSw); go_simp; try with_reducible rfl)
      simp only [Act.put, List.setIfInBounds_toArray, List.set]
      refine takeD (i := 8) (oi := _) (some 51) (v := ?_) rfl rfl (by kernel_rfl) (by kernel_rfl) (by kernel_rfl) (fun _ _ _ h => h) (Or.inl ⟨by rfl, ?_⟩) (by assumption) ?_
      rotate_left
      · (intro w hSw; (try dsimp only at hSw); go_simp; try with_reducible rfl)
      simp only [Act.put, List.setIfInBounds_toArray, List.set]
      refine takeD (i := 9) (oi := _) (some 52) (v := ?_) rfl rfl (by kernel_rfl) (by kernel_rfl) (by kernel_rfl) (fun _ _ _ h => h) (Or.inl ⟨by rfl, ?_⟩) (by assumption) ?_
      rotate_left
      · (intro w hSw; (try dsimp only at hSw); go_simp; try with_reducible rfl)
      simp only [Act.put, List.setIfInBounds_toArray, List.set]
      refine takeD (i := 10) (oi := _) (some 53) (v := ?_) rfl rfl (by kernel_rfl) (by kernel_rfl) (by kernel_rfl) (fun _ _ _ h => h) (Or.inl ⟨by rfl, ?_⟩) (by assumption) ?_
      rotate_left
      · (intro w hSw; (try dsimp only at hSw); go_simp; try with_reducible rfl)
      simp only [Act.put, List.setIfInBounds_toArray, List.set]
      refine takeD (i := 11) (oi := _) (some 54) (v := ?_) rfl rfl (by kernel_rfl) (by kernel_rfl) (by kernel_rfl) (fun _ _ _ h => h) (Or.inl ⟨by rfl, ?_⟩) (by assumption) ?_
      rotate_left
      · (intro w hSw; (try dsimp only at hSw); go_simp; try with_reducible rfl)
      simp only [Act.put, List.setIfInBounds_toArray, List.set]
      refine wpAnyH_ready (rs := [12]) (by kernel_rfl) (by simp) ?_
      refine AllReadyH.cons (o := _) rfl (fun K hK => ?_) AllReadyH.nil
      (go_simp; go_at_call 27; (with_reducible refine (kc _).mono ?_); rintro e wn ⟨rfl, hbn⟩)
      refine hK.out _ _ (by (try dsimp only); first | exact hHeld | (obtain ⟨z0, z1, z2, z3, z4, z5, z6, z7, z9, z8⟩ := hHeld; exact ⟨keepc z0 hbn, keepc z1 hbn, keepc z2 hbn, keepc z3 hbn, keepc z4 hbn, keepc z5 hbn, keepc z6 hbn, keepc z7 hbn, z9.trans (hbn.mono z9.size), z8.below hbn⟩)) (fun hHeld => ?_)
      clear hK K
      try simp only [Act.put, List.setIfInBounds_toArray, List.set]
      refine takeD (i := 13) (oi := _) (some 56) (v := ?_) rfl rfl (by kernel_rfl) (by kernel_rfl) (by kernel_rfl) (fun _ _ _ h => h) (Or.inl ⟨by rfl, ?_⟩) (by assumption) ?_
      rotate_left
      · (intro w hSw; (try dsimp only at hSw); go_simp; try with_reducible rfl)
      simp only [Act.put, List.setIfInBounds_toArray, List.set]
      refine takeD (i := 14) (oi := _) (some 57) (v := ?_) rfl rfl (by kernel_rfl) (by kernel_rfl) (by kernel_rfl) (fun _ _ _ h => h) (Or.inl ⟨by rfl, ?_⟩) (by assumption) ?_
      rotate_left
      · (intro w hSw; (try dsimp only at hSw); go_simp; try with_reducible rfl)
      simp only [Act.put, List.setIfInBounds_toArray, List.set]
      refine wpAnyH_done (by kernel_rfl) ?_ _

      obtain ⟨z0, z1, z2, z3, y0, y1, y2, y3, z9, z8⟩ := hHeld
      have A10 := Lib.hid z8
      clear z8 HS ke kc y0 y1 y2 y3
      have HBT := Lib.hid z9
      clear z9
      have ws := HWS.out
      go_wp2_with (first | (go_at_call 28; (with_reducible refine (KAR.out _).mono ?_); rintro e w12 ⟨rfl, hb⟩; have A12 := Lib.hid (A10.out.below hb); have HB12 := Lib.hid (HBT.out.trans (hb.mono HBT.out.size)); clear hb) | fail)
      go_roundw
      case rel => exact ⟨k + 1, by omega, by go_num, by rw [HSN.out], A12, HB12⟩
      case measure => simp [intOf]; omega
    case neg =>
      obtain rfl : k = L.length := by omega
      have HSUM := Lib.hid (show Pl.sumA (L.take L.length) = Pl.areaI h.a h.b h.c h.d by rw [List.take_length]; exact HT.out.sum)
      rw [HSUM.out]
      have A13 := HA
      clear HA HBW HL HSUM
      have y6 := A13.out.bh.get 6 (v := .slice s h.cs.length m) rfl
      go_upto_region 15 with fail
      clear y6
      go_loopw [9, 10, 69] (fun _ _ v wr => ∃ k : Nat, k ≤ h.cs.length ∧ v = .int .i64 k ∧ Hid (BdS W h p s m t n t2 n2 wr)) (fun _ _ v _ => h.cs.length - (intOf v).toNat)
      case atStart => exact ⟨0, Nat.zero_le _, rfl, A13⟩
      case round =>
        obtain ⟨k, hk, rfl, HA⟩ := hrel
        clear A13
        by_cases hlt : k < h.cs.length
        case pos =>
          rcases HA.out.hC with z | ⟨b, off, rfl, hr⟩
          · rw [z] at hlt; simp at hlt
          obtain ⟨c0, c1, c2, c3⟩ := hr k hlt
          obtain ⟨a1, a2⟩ := HCO.out h.cs[k] (List.getElem_mem hlt)
          have hki : (k : Int) < (h.cs.length : Int) := by omega
          have w2' : IntKind.i64.wrap ((k : Int) + 1) = (k : Int) + 1 := IntWalk.i64_in _ (by have := HLEN.out; omega)
          have krr := fun w : World => KR.out h.cs[k] w
          have kaa := fun w : World => HKA.out (Hp.smp (Hp.hR h) h.cs[k]) w
          have er : Pl.redR h.a h.b h.c h.d h.cs[k].dx h.cs[k].dy = Hp.smp (Hp.hR h) h.cs[k] := rfl
          rw [er] at krr
          have ea : Pl.areaI (Hp.smp (Hp.hR h) h.cs[k]).x0 (Hp.smp (Hp.hR h) h.cs[k]).y0 (Hp.smp (Hp.hR h) h.cs[k]).x1 (Hp.smp (Hp.hR h) h.cs[k]).y1 = Hp.arR (Hp.smp (Hp.hR h) h.cs[k]) := rfl
          rw [ea] at kaa
          clear er ea
          generalize Hp.arR (Hp.smp (Hp.hR h) h.cs[k]) = AR at *
          generalize Hp.smp (Hp.hR h) h.cs[k] = Q at *
          generalize h.cs[k] = V at *
          have b1 : ¬ AR < 1 := by omega
          have b2 : ¬ 1048576 < AR := by omega
          clear hr a1 a2
          go_upto_region 17 with fail
          obtain ⟨X1, hX1⟩ : ∃ x, x = wr.alloc (.cells #[.int .i64 V.depth, .bool V.sg, .int .i64 V.dx, .int .i64 V.dy] 56) := ⟨_, rfl⟩
          obtain ⟨gx, hgx⟩ : ∃ x, wr.heap.size = x := ⟨_, rfl⟩
          have HCX := Lib.hid (show Blk X1 gx 56 #[.int .i64 V.depth, .bool V.sg, .int .i64 V.dx, .int .i64 V.dy] by rw [hX1, ← hgx]; exact Blk.new _ _ _)
          have A17 := Lib.hid (HA.out.below (show Below wr.heap.size wr X1 by rw [hX1]; exact below_alloc (Below.refl _ _) (Nat.le_refl _) _))
          rw [hgx, ← hX1]
          clear c0 c1 c2 c3 hgx hX1 HA
          obtain ⟨c0, c1, c2, c3⟩ := HCX.out.four
          obtain ⟨g0, g1, g2, g3, -, -, -⟩ := A17.out.bh.hd
          go_wp2_with (first | (go_at_call 29; (with_reducible refine (krr _).mono ?_); rintro e w18 ⟨rfl, hb⟩; have A18 := Lib.hid (A17.out.below hb); clear hb) | (go_at_call 28; (with_reducible refine (kaa _).mono ?_); rintro e w19 ⟨rfl, hb⟩; have A19 := Lib.hid (A18.out.below hb); clear hb) | fail)
          go_roundw
          case rel => exact ⟨k + 1, by omega, by go_num, A19⟩
          case measure => simp [intOf]; omega
        case neg =>
          have A21 := HA
          clear HA
          obtain ⟨g0, g1, g2, g3, -, -, -⟩ := A21.out.bh.hd
          have s1 : (Pl.areaI h.a h.b h.c h.d == Pl.areaI h.a h.b h.c h.d) = true := by simp
          generalize Pl.areaI h.a h.b h.c h.d = AA at *
          by_cases hz2 : Hp.chkM h p = 0
          case neg =>
            have e1 : (Hp.chkM h p == 0) = false := by simpa using hz2
            have e2 : (Hp.chkM h p != 0) = true := by simpa using hz2
            have e3 : decide (Hp.chkM h p = 0) = false := by simpa using hz2
            clear HPL
            generalize Hp.chkM h p = CM at *
            go_wp2_with (first | (refine wpList_load_mid rfl 26 (.tmp 2) rfl W.heap.size 0 rfl (hvA h s m).toList _ A22.out.bh.range Try.underlying26 rfl info7 ?_) | (refine wpList_load_mid rfl 35 (.tmp 3) rfl (W.heap.size + 1) 0 rfl (pvA p t n t2 n2).toList _ A22.out.bp.range Try.underlying35 rfl info19 ?_) | (go_at_call 28; (with_reducible refine (KA2.out _).mono ?_); rintro e w22 ⟨rfl, hb⟩; have A22 := Lib.hid (A21.out.below hb); clear hb) | (go_at_call 11; (with_reducible refine (KC.out _ A22.out).mono ?_); rintro e w23 ⟨rfl, hb⟩; have A23 := Lib.hid (A22.out.below hb); clear hb) | (go_at_call 10; (with_reducible refine (awake23_c _).mono ?_); rintro e w24 ⟨rfl, hb⟩; have B24 := Lib.hid (A23.out.below hb).bl; clear hb) | fail)
            go_ret
            exact ⟨rfl, B24.out⟩
          case pos =>
            rw [hz2] at KC
            have HPK := Lib.hid (HPL.out hz2)
            clear hz2 HPL
            go_upto_region 25 with (first | (refine wpList_load_mid rfl 26 (.tmp 2) rfl W.heap.size 0 rfl (hvA h s m).toList _ A22.out.bh.range Try.underlying26 rfl info7 ?_) | (refine wpList_load_mid rfl 35 (.tmp 3) rfl (W.heap.size + 1) 0 rfl (pvA p t n t2 n2).toList _ A22.out.bp.range Try.underlying35 rfl info19 ?_) | (go_at_call 28; (with_reducible refine (KA2.out _).mono ?_); rintro e w22 ⟨rfl, hb⟩; have A22 := Lib.hid (A21.out.below hb); clear hb) | (go_at_call 11; (with_reducible refine (KC.out _ A22.out).mono ?_); rintro e w23 ⟨rfl, hb⟩; have A23 := Lib.hid (A22.out.below hb); clear hb) | fail)
            clear g0 g1 g2 g3 A21 A22
            have y6 := A23.out.bp.get 16 (v := .slice t2 p.steps.length n2) rfl
            go_upto_region 26 with fail
            clear y6
            go_loopw [11, 12, 101] (fun _ _ v wr => ∃ k : Nat, k ≤ p.steps.length ∧ v = .int .i64 k ∧ Hid (BdS W h p s m t n t2 n2 wr)) (fun _ _ v _ => p.steps.length - (intOf v).toNat)
            case atStart => exact ⟨0, Nat.zero_le _, rfl, A23⟩
            case round =>
              obtain ⟨k, hk, rfl, HA⟩ := hrel
              clear A23
              by_cases hlt : k < p.steps.length
              case pos =>
                obtain ⟨a1, a2⟩ := HPK.out k hlt
                have kpp := KP.out wr k HA.out
                have hki : (k : Int) < (p.steps.length : Int) := by omega
                have w2' : IntKind.i64.wrap ((k : Int) + 1) = (k : Int) + 1 := IntWalk.i64_in _ (by have := HLEN.out; omega)
                generalize planeM p k = PM at *
                have b1 : ¬ PM < 1 := by omega
                have b2 : ¬ 60 < PM := by omega
                clear a1 a2
                go_wp2_with (first | (refine wpList_load_mid rfl 35 (.tmp 3) rfl (W.heap.size + 1) 0 rfl (pvA p t n t2 n2).toList _ HA.out.bp.range Try.underlying35 rfl info19 ?_) | (go_at_call 15; (with_reducible refine kpp.mono ?_); rintro e w28 ⟨rfl, hb⟩; have A28 := Lib.hid (HA.out.below hb); clear hb) | fail)
                go_roundw
                case rel => exact ⟨k + 1, by omega, by go_num, A28⟩
                case measure => simp [intOf]; omega
              case neg =>
                go_wp2_with (first | (go_at_call 10; (with_reducible refine (awake23_c _).mono ?_); rintro e w32 ⟨rfl, hb⟩; have B32 := Lib.hid (HA.out.below hb).bl; clear hb) | fail)
                go_ret
                exact ⟨rfl, B32.out⟩

set_option maxRecDepth 100000 in
theorem lifted (os : Os) (started : os.Started) (H : Type) (enc : TypeId × Value → H) :
    ReturnsInHanded {} Try.checked os 7 .any (Rows.paramsBoundsSpec.pre6 enc Try.prog Try.f7 Rows.paramsBoundsRow.domain false) (Rows.paramsBoundsSpec.post enc Try.prog Try.f7 false true false false) := by
  refine returnsInHanded_of_change (C := Try.checked) own started (by kernel_rfl) Try.func7
    (ChangeSpec.witness6 (enc := enc) (C := Try.checked) false ⟨#[], #[.agg #[.int .i64 0, .int .i64 0, .int .i64 0, .int .i64 0, .int .i64 0, .int .i64 0, .slice none 0 0], .agg #[.int .i64 0, .int .i64 0, .int .i64 0, .int .i64 0, .int .i64 0, .slice none 0 0, .int .i64 0, .int .i64 0, .bool false, .bool false, .bool false, .bool false, .bool false, .bool false, .bool false, .bool false, .slice none 0 0, .int .i64 0, .int .i64 0]], []⟩ 8 (by kernel_rfl) (by kernel_rfl) (by kernel_rfl) (by kernel_rfl)) ?_
  intro W base args ds gs before hval0 hW _ _
  have hval : ∀ (j : Nat) t v, Try.f7.params[j]? = some t → args[j]? = some v → Value.okWide Try.prog W .any base t v := hval0
  have hW' := hW
  obtain ⟨p, q, hA0, hV, rfl, _, _⟩ := hW
  have hA : DataW.TrodAll enc Try.prog W 0 (fun _ => true) true Try.f7.params.toList args.toList ds p := hA0
  rw [Try.params7] at hA hval
  obtain ⟨v0, vs0, d0, ds0, p0, q0, hargs, rfl, rfl, h0, r0⟩ := trodAll_cons hA
  obtain ⟨v1, vs1, d1, ds1, p1, q1, rfl, rfl, rfl, h1, r1⟩ := trodAll_cons r0
  obtain ⟨rfl, rfl, rfl⟩ := trodAll_nil r1
  obtain rfl : args = #[v0, v1] := by cases args; simp_all
  obtain ⟨rfl, rfl⟩ := trodVars_none hV
  clear hA0 hval0
  simp only [List.append_nil] at hW'
  have l0 : ∀ x ∈ p0, x.block < W.heap.size := fun x hx => hW'.lt x (by simp [hx])
  have l1 : ∀ x ∈ p1, x.block < W.heap.size := fun x hx => hW'.lt x (by simp [hx])
  obtain ⟨hd0, s0, m0, rfl, hC0, hc0⟩ := open_header2 (hval 0 26 v0 rfl rfl) h0
  obtain ⟨p1', s1, m1, t1, n1, rfl, hP1, hS1, hp1, hs1⟩ := open_params (hval 1 35 v1 rfl rfl) h1
  refine (walk hd0 p1' s0 m0 s1 m1 t1 n1 W hC0 hP1 hS1).mono fun e W' ⟨he, hb⟩ => ?_
  subst he
  exact ⟨_, rfl, post_low (pa := p0 ++ (p1 ++ ([]))) (pv := []) hW' (fun _ _ _ => (trodAll_cons_mk (shut_bool Try.underlying4 _) trodAll_mk0)) (fun sp hsp => (trodAll_cons_mk (trod_low laidOut (by kernel_rfl) (of_decide_eq_true (by kernel_rfl)) h0 hb l0 (fun x hx => hsp x (by simp [hx]))) (trodAll_cons_mk (trod_low laidOut (by kernel_rfl) (of_decide_eq_true (by kernel_rfl)) h1 hb l1 (fun x hx => hsp x (by simp [hx]))) trodAll_mk0))) (fun _ _ => rfl) (by simp) hb (ok_one (by kernel_rfl) rfl (okWide_bool_mk Try.underlying4 _))⟩

theorem over : Rows.paramsBoundsRow.holds Try.pinned (OpenSpec.ofChange Rows.paramsBoundsSpec) :=
  OpenClaim.holds_of_wide 7 Try.f7 rfl rfl rfl rfl rfl rfl rfl ⟨rfl, rfl, rfl, rfl, rfl⟩ rfl rfl rfl rfl rfl (by kernel_rfl) Try.func7 (by kernel_rfl)
    (of_decide_eq_true (by kernel_rfl)) (by unfold Func.isWrapper; first | (rw [if_pos (by decide +kernel)]; kernel_rfl) | (rw [if_neg (by decide +kernel)]; exact ⟨rfl, rfl⟩))
    (fun os started H enc _ => lifted os started H enc)

theorem proved : Rows.ParamsBoundsSaid :=
  over
#print axioms proved
end Go.Proofs.Ytkcjbehfhcmiaaa.paramsBounds
