/-
  Layer 23: the examples that the statements of waveletlaw23 end with.
-/
import Derived.Test.YtkcjbehfhcmiaaaHz1
import Derived.Deep.MidRow
set_option maxRecDepth 100000
namespace Go.Proofs.Ytkcjbehfhcmiaaa
open Go.RowKit

def exH : Hp.Hd := ⟨0, 0, 8, 5, 4, 4, [⟨8, false, 1, 1⟩]⟩
def exH2 : Hp.Hd := ⟨0, 0, 8, 5, 0, 4, [⟨8, false, 1, 1⟩]⟩
def exP : Hp.Ps := ⟨2, 0, 0, 2, 2, [], 1, 1, false, false, false, false, false, false, false, false, [1], 16, 0⟩
def exP2 : Hp.Ps := ⟨2, 0, 0, 2, 2, [], 1, 1, false, false, false, false, false, false, false, false, [1], 32, 0⟩
theorem exv1 : Hp.headM exH = 0 := by kernel_rfl
theorem exv2 : Hp.chkM exH exP = 0 := by kernel_rfl
theorem exv3 : planeM exP 0 = 28 := by kernel_rfl
theorem exv4 : losM exP = true := by kernel_rfl
theorem exv5 : Hp.precM exP 0 = ⟨12, 12⟩ := by kernel_rfl
theorem exv6 : losM exP2 = false := by kernel_rfl
theorem exv7 : Hp.chkM exH2 exP2 = 12 := by kernel_rfl
def eqP (a b c d : Int) : Bool := decide (a = c ∧ b = d)
theorem fieldsP : (Try.prog.fieldsOf 41).toList = [⟨"X", 3, 0, false, "", "", 0⟩, ⟨"Y", 3, 1, false, "", "", 8⟩] := by kernel_rfl
theorem eqPt (a b c d : Int) (w : World) : (Op.equalIn 10000 41 (.agg #[.int .i64 a, .int .i64 b]) (.agg #[.int .i64 c, .int .i64 d])).run Try.prog w = .ok (eqP a b c d) w := by
  have hu : Try.prog.underlying 41 = some (.struct (Try.prog.fieldsOf 41)) := by kernel_rfl
  have hp : Try.prog.stoodInHeld 41 = false := by kernel_rfl
  have h3 : Try.prog.underlying 3 = some (.int .i64) := by kernel_rfl
  have he := fun (x y : Int) => run_equalIn_int (P := Try.prog) w 9998 3 .i64 .i64 x y h3
  rw [run_equalIn_struct _ _ _ _ _ hu hp, fieldsP]
  simp only [Op.eqFields, part]
  simp [he, eqP]
  repeat' split
  all_goals simp_all
/-- What awake keeps in memory. -/
structure AwS (W : World) (gc gh gs gp : Nat) (h : Hp.Hd) (p : Hp.Ps) (w : World) : Prop where
  bl : Below W.heap.size W w
  hC : HoldsC w (some ⟨gc, 0, none⟩) h.cs
  bh : Blk w gh 26 (hvA h (some ⟨gc, 0, none⟩) 1)
  hS : HoldsI w (some ⟨gs, 0, none⟩) p.steps
  bp : Blk w gp 35 (pvA p none 0 (some ⟨gs, 0, none⟩) 1)
  ne : gc ≠ gh ∧ gc ≠ gp ∧ gs ≠ gh ∧ gs ≠ gp ∧ gh ≠ gp ∧ W.heap.size ≤ gh ∧ W.heap.size ≤ gp
theorem AwS.below {W w w' : World} {gc gh gs gp : Nat} {h : Hp.Hd} {p : Hp.Ps} (a : AwS W gc gh gs gp h p w) (hb : Below w.heap.size w w') : AwS W gc gh gs gp h p w' :=
  ⟨a.bl.trans (hb.mono a.bl.size), a.hC.below hb (Nat.le_refl _), a.bh.below hb, a.hS.below hb (Nat.le_refl _), a.bp.below hb, a.ne⟩
theorem HoldsC.far {w : World} {b : Nat} {l : List Hp.Cm} (h : HoldsC w (some ⟨b, 0, none⟩) l) {g o : Nat} (v : Value) (hn : b ≠ g) : HoldsC (w.setCell ⟨g, o, none⟩ v) (some ⟨b, 0, none⟩) l := by
  rcases h with h | ⟨b', o', e, hr⟩
  · exact .inl h
  · injection e with e; injection e with e1 e2
    subst e1 e2
    exact .inr ⟨b, 0, rfl, fun k hk => ⟨cell_far _ (hr k hk).1 hn, cell_far _ (hr k hk).2.1 hn, cell_far _ (hr k hk).2.2.1 hn, cell_far _ (hr k hk).2.2.2 hn⟩⟩
theorem HoldsI.far {w : World} {b : Nat} {l : List Int} (h : HoldsI w (some ⟨b, 0, none⟩) l) {g o : Nat} (v : Value) (hn : b ≠ g) : HoldsI (w.setCell ⟨g, o, none⟩ v) (some ⟨b, 0, none⟩) l := by
  rcases h with h | ⟨b', o', e, hr⟩
  · exact .inl h
  · injection e with e; injection e with e1 e2
    subst e1 e2
    exact .inr ⟨b, 0, rfl, fun k hk => cell_far _ (hr k hk) hn⟩
theorem AwS.turn {W w : World} {gc gh gs gp : Nat} (a : AwS W gc gh gs gp exH exP w) : AwS W gc gh gs gp exH2 exP2 ((w.setCell ⟨gp, 17, none⟩ (.int .i64 32)).setCell ⟨gh, 4, none⟩ (.int .i64 0)) := by
  obtain ⟨n1, n2, n3, n4, n5, n6, n7⟩ := a.ne
  exact ⟨(a.bl.setCell (p := ⟨gp, 17, none⟩) n7 _).setCell (p := ⟨gh, 4, none⟩) n6 _, (a.hC.far _ n2).far _ n1,
    (a.bh.far (p := ⟨gp, 17, none⟩) n5 _).set 4 _, (a.hS.far _ n4).far _ n3,
    (a.bp.set 17 _).far (p := ⟨gh, 4, none⟩) n5.symm _, a.ne⟩
def zeroP : Array Value := #[.int .i64 0, .int .i64 0, .int .i64 0, .int .i64 0, .int .i64 0, .slice none 0 0, .int .i64 0, .int .i64 0, .bool false, .bool false, .bool false, .bool false, .bool false, .bool false, .bool false, .bool false, .slice none 0 0, .int .i64 0, .int .i64 0]
theorem one19 (s s2 : Option Addr) (m m2 : Nat) (p : Hp.Ps) : (pvA p s m s2 m2).all (·.oneCell') = true := by simp [pvA, Value.oneCell']
set_option maxHeartbeats 4000000 in
theorem awake23_c (W : World) : Calls Try.prog 10 #[] W fun e w' => e = .returned (.bool true) ∧ Below W.heap.size W w' := by
  have heq := eqPt
  have heq1 : eqP 12 12 12 12 = true := by decide
  go_enter Try.func10, Try.ntmps10
  go_upto_region 2 with fail
  obtain ⟨w1, hw1⟩ : ∃ x, x = (W.alloc (.cells #[.int .i64 8, .bool false, .int .i64 1, .int .i64 1] 56)).alloc (.cells #[.int .i64 0, .int .i64 0, .int .i64 8, .int .i64 5, .int .i64 4, .int .i64 4, .slice (some ⟨W.heap.size, 0, none⟩) 1 1] 26) := ⟨_, rfl⟩
  have hC1 : HoldsC w1 (some ⟨W.heap.size, 0, none⟩) exH.cs := by
    have hC : HoldsC (W.alloc (.cells #[.int .i64 8, .bool false, .int .i64 1, .int .i64 1] 56)) (some ⟨W.heap.size, 0, none⟩) exH.cs := by
      refine .inr ⟨_, _, rfl, fun k hk => ?_⟩
      obtain rfl : k = 0 := by have : k < 1 := hk; omega
      simp [CmAt, exH]
    rw [hw1]
    exact hC.alloc _
  have hH1 : Blk w1 (W.heap.size + 1) 26 (hvA exH (some ⟨W.heap.size, 0, none⟩) 1) := by
    have := Blk.new (W.alloc (.cells #[.int .i64 8, .bool false, .int .i64 1, .int .i64 1] 56)) 26 (hvA exH (some ⟨W.heap.size, 0, none⟩) 1)
    rw [hw1]
    rw [show (W.alloc (.cells #[.int .i64 8, .bool false, .int .i64 1, .int .i64 1] 56)).heap.size = W.heap.size + 1 by simp] at this
    exact this
  have hb1 : Below W.heap.size W w1 := by rw [hw1]; exact below_alloc (below_alloc (Below.refl _ _) (Nat.le_refl _) _) (by simp) _
  have hs1 : w1.heap.size = W.heap.size + 1 + 1 := by rw [hw1]; simp
  rw [← hw1]
  clear hw1
  have hz2 : (w1.alloc (.cells #[.int .i64 1] 3)).heap.size = w1.heap.size + 1 := by simp
  have HZ : Blk ((w1.alloc (.cells #[.int .i64 1] 3)).alloc (.cells zeroP 35)) (w1.heap.size + 1) 35 zeroP := by
    have := Blk.new (w1.alloc (.cells #[.int .i64 1] 3)) 35 zeroP
    rw [hz2] at this
    exact this
  obtain ⟨w0, hw0⟩ : ∃ x, x = ((w1.alloc (.cells #[.int .i64 1] 3)).alloc (.cells zeroP 35)).setRow (w1.heap.size + 1) (pvA exP none 0 (some ⟨w1.heap.size, 0, none⟩) 1) := ⟨_, rfl⟩
  have bX : Below w1.heap.size w1 w0 := by
    rw [hw0]
    exact below_setRow (below_alloc (below_alloc (Below.refl _ _) (Nat.le_refl _) _) (by rw [hz2]; omega) _) (by omega) _
  have bY : Below (w1.alloc (.cells #[.int .i64 1] 3)).heap.size (w1.alloc (.cells #[.int .i64 1] 3)) w0 := by
    rw [hw0]
    exact below_setRow (below_alloc (Below.refl _ _) (Nat.le_refl _) _) (by rw [hz2]; omega) _
  have hA : AwS W W.heap.size (W.heap.size + 1) w1.heap.size (w1.heap.size + 1) exH exP w0 :=
    ⟨hb1.trans (bX.mono (by omega)), hC1.below bX (Nat.le_refl _), hH1.below bX, (holds_one w1 1).below bY (Nat.le_refl _), by rw [hw0]; exact setRow_heap _ _ _ _ _ _ HZ, by omega⟩
  clear hC1 hH1 hb1 hs1 bX bY hz2
  obtain ⟨gs, hgs⟩ : ∃ x, w1.heap.size = x := ⟨_, rfl⟩
  rw [hgs] at hA hw0 HZ
  have A0 := Lib.hid hA
  clear hA
  have hw0' : w0 = ((w1.alloc (.cells #[.int .i64 1] 3)).alloc (.cells #[.int .i64 0, .int .i64 0, .int .i64 0, .int .i64 0, .int .i64 0, .slice none 0 0, .int .i64 0, .int .i64 0, .bool false, .bool false, .bool false, .bool false, .bool false, .bool false, .bool false, .bool false, .slice none 0 0, .int .i64 0, .int .i64 0] 35)).setRow (gs + 1) (pvA exP none 0 (some ⟨gs, 0, none⟩) 1) := hw0
  clear hw0
  have HW0 := Lib.hid hw0'
  clear hw0'
  go_upto_region 3 with (first | (refine wpList_store_row (by rfl) 35 (.tmp 2) (.tmp 8) (by rfl) (gs + 1) (pvA exP none 0 (some ⟨gs, 0, none⟩) 1) (by rfl) (by rfl) 35 zeroP HZ info19 (by rfl) (one19 _ _ _ _ _) ?_; rw [← HW0.out]; try simp only [Act.put]) | fail)
  clear HW0 HZ
  have K1 := Lib.hid (fun (w : World) (a : AwS W W.heap.size (W.heap.size + 1) gs (gs + 1) exH exP w) => header_c exH (some ⟨W.heap.size, 0, none⟩) 1 w (by decide) a.hC)
  have K2 := Lib.hid (fun (w : World) (a : AwS W W.heap.size (W.heap.size + 1) gs (gs + 1) exH exP w) => check_c exH exP (some ⟨W.heap.size, 0, none⟩) none (some ⟨gs, 0, none⟩) 1 0 1 w (by decide) (by decide) (by decide) a.hC (.inl rfl) a.hS)
  have K3 := Lib.hid (fun (w : World) (a : AwS W W.heap.size (W.heap.size + 1) gs (gs + 1) exH exP w) => planes_p exP none (some ⟨gs, 0, none⟩) 0 1 0 w (by decide) a.hS)
  have K4 := Lib.hid (fun (w : World) (a : AwS W W.heap.size (W.heap.size + 1) gs (gs + 1) exH exP w) => lossless_p exP none (some ⟨gs, 0, none⟩) 0 1 w (by decide) a.hS)
  have K5 := Lib.hid (fun (w : World) (_ : AwS W W.heap.size (W.heap.size + 1) gs (gs + 1) exH exP w) => precinct_p exP none (some ⟨gs, 0, none⟩) 0 1 0 w (.inl rfl))
  have K6 := Lib.hid (fun (w : World) (a : AwS W W.heap.size (W.heap.size + 1) gs (gs + 1) exH2 exP2 w) => lossless_p exP2 none (some ⟨gs, 0, none⟩) 0 1 w (by decide) a.hS)
  have K7 := Lib.hid (fun (w : World) (a : AwS W W.heap.size (W.heap.size + 1) gs (gs + 1) exH2 exP2 w) => check_c exH2 exP2 (some ⟨W.heap.size, 0, none⟩) none (some ⟨gs, 0, none⟩) 1 0 1 w (by decide) (by decide) (by decide) a.hC (.inl rfl) a.hS)
  rw [exv1] at K1
  rw [exv2] at K2
  rw [exv3] at K3
  rw [exv4] at K4
  rw [exv5] at K5
  rw [exv6] at K6
  rw [exv7] at K7
  dsimp only at K5
  clear hgs
  go_upto_region 5 with (first | (refine wpList_load_mid rfl 26 (.tmp 1) rfl (W.heap.size + 1) 0 rfl (hvA exH (some ⟨W.heap.size, 0, none⟩) 1).toList _ A0.out.bh.range Try.underlying26 rfl info7 ?_) | (refine load_mid_g (by rfl) 26 (.tmp 1) rfl (W.heap.size + 1) 0 rfl (hvA exH (some ⟨W.heap.size, 0, none⟩) 1).toList _ A1.out.bh.range Try.underlying26 rfl info7 ?_) | (refine load_mid_g (by rfl) 35 (.tmp 2) rfl (gs + 1) 0 rfl (pvA exP none 0 (some ⟨gs, 0, none⟩) 1).toList _ A1.out.bp.range Try.underlying35 rfl info19 ?_) | (refine load_mid_g (by rfl) 35 (.tmp 2) rfl (gs + 1) 0 rfl (pvA exP none 0 (some ⟨gs, 0, none⟩) 1).toList _ A2.out.bp.range Try.underlying35 rfl info19 ?_) | (refine load_mid_g (by rfl) 35 (.tmp 2) rfl (gs + 1) 0 rfl (pvA exP none 0 (some ⟨gs, 0, none⟩) 1).toList _ A3.out.bp.range Try.underlying35 rfl info19 ?_) | (refine load_mid_g (by rfl) 35 (.tmp 2) rfl (gs + 1) 0 rfl (pvA exP none 0 (some ⟨gs, 0, none⟩) 1).toList _ A4.out.bp.range Try.underlying35 rfl info19 ?_) | (go_at_call 24; (with_reducible refine (K1.out w0 A0.out).mono ?_); rintro e w1 ⟨rfl, hb⟩; have A1 := Lib.hid (A0.out.below hb); clear hb) | (go_at_call 11; (with_reducible refine (K2.out w1 A1.out).mono ?_); rintro e w2 ⟨rfl, hb⟩; have A2 := Lib.hid (A1.out.below hb); clear hb) | (go_at_call 15; (with_reducible refine (K3.out w2 A2.out).mono ?_); rintro e w3 ⟨rfl, hb⟩; have A3 := Lib.hid (A2.out.below hb); clear hb) | (go_at_call 17; (with_reducible refine (K4.out w3 A3.out).mono ?_); rintro e w4 ⟨rfl, hb⟩; have A4 := Lib.hid (A3.out.below hb); clear hb) | (go_at_call 13; (with_reducible refine (K5.out w4 A4.out).mono ?_); rintro e w5 ⟨rfl, hb⟩; have A5 := Lib.hid (A4.out.below hb); clear hb) | fail)
  have hne := A5.out.ne
  have T := A5.out.turn
  have g1 : w5.cell? ⟨gs + 1, 17, none⟩ = some (.int .i64 16) := A5.out.bp.get 17 rfl
  have g2 := A5.out.bp.free 17
  have g3 : (w5.setCell ⟨gs + 1, 17, none⟩ (.int .i64 32)).cell? ⟨W.heap.size + 1, 4, none⟩ = some (.int .i64 4) := (A5.out.bh.far (p := ⟨gs + 1, 17, none⟩) hne.2.2.2.2.1 _).get 4 rfl
  have g4 := (A5.out.bh.far (p := ⟨gs + 1, 17, none⟩) hne.2.2.2.2.1 (.int .i64 32)).free 4
  go_upto_region 7 with fail
  obtain ⟨w10, hw10⟩ : ∃ x, x = (w5.setCell ⟨gs + 1, 17, none⟩ (.int .i64 32)).setCell ⟨W.heap.size + 1, 4, none⟩ (.int .i64 0) := ⟨_, rfl⟩
  rw [← hw10] at T ⊢
  clear hw10 g1 g2 g3 g4 hne
  have A10 := Lib.hid T
  clear T
  go_wp2_with (first | (refine wpList_load_mid rfl 35 (.tmp 2) rfl (gs + 1) 0 rfl (pvA exP2 none 0 (some ⟨gs, 0, none⟩) 1).toList _ A10.out.bp.range Try.underlying35 rfl info19 ?_) | (refine load_mid_g (by rfl) 26 (.tmp 1) rfl (W.heap.size + 1) 0 rfl (hvA exH2 (some ⟨W.heap.size, 0, none⟩) 1).toList _ A11.out.bh.range Try.underlying26 rfl info7 ?_) | (refine load_mid_g (by rfl) 35 (.tmp 2) rfl (gs + 1) 0 rfl (pvA exP2 none 0 (some ⟨gs, 0, none⟩) 1).toList _ A11.out.bp.range Try.underlying35 rfl info19 ?_) | (go_at_call 17; (with_reducible refine (K6.out w10 A10.out).mono ?_); rintro e w11 ⟨rfl, hb⟩; have A11 := Lib.hid (A10.out.below hb); clear hb) | (go_at_call 11; (with_reducible refine (K7.out w11 A11.out).mono ?_); rintro e w12 ⟨rfl, hb⟩; have A12 := Lib.hid (A11.out.below hb); clear hb) | fail)
  go_ret
  exact ⟨rfl, A12.out.bl⟩
end Go.Proofs.Ytkcjbehfhcmiaaa
