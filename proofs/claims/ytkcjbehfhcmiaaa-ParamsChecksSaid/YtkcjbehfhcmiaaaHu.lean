/-
  Layer 23: contract of Check.
-/
import Derived.Test.YtkcjbehfhcmiaaaHt
set_option maxRecDepth 100000
namespace Go.Proofs.Ytkcjbehfhcmiaaa
open Go.RowKit

theorem load_mid_g {P : Program} {ops : Array Oper} {rest : List Oper} {op : Oper} {a : Act} {w : World} {Q : Exit → Act → World → Prop} (hw : Region.wanted op (yielded ops a.tmps) = true) (ty : TypeId) (x : Operand) (ho : op.op = .load ty x)
    (b o : Nat) (hx : a.eval x = .pointer (some ⟨b, o, none⟩)) (cs : List Value) (d : TypeDesc) (hc : w.rangeAt b o cs)
    (hu : P.underlying ty = some d) (hd : d.isRow = true) (hi : (P.info? ty).map (·.size) = some cs.length)
    (h : wpList P ops Q rest (a.put op.dst (.agg cs.toArray)) w) : wpList P ops Q (op :: rest) a w :=
  wpList_step fun K hK => by
    rw [if_pos hw]
    exact wp_load_mid ty x ho b o hx cs d hc hu hd hi (hK _ _ h)
theorem head_zero {h : Hp.Hd} (hz : Hp.headM h = 0) : Hp.hdB h = true ∧ Hp.manyB h = false ∧ ∀ c ∈ h.cs, Hp.cmB (Hp.hR h) c = true := by
  unfold Hp.headM at hz
  by_cases h1 : Hp.sndB h = false
  · rw [if_pos h1] at hz; exact absurd hz (by decide)
  · rw [if_neg h1] at hz
    by_cases h2 : Hp.bigB h = true
    · rw [if_pos h2] at hz; exact absurd hz (by decide)
    · have a : Hp.sndB h = true := by simpa using h1
      have b : Hp.bigB h = false := by simpa using h2
      unfold Hp.sndB at a
      unfold Hp.bigB at b
      obtain ⟨a1, a2⟩ := Bool.and_eq_true_iff.1 a
      exact ⟨a1, (Bool.or_eq_false_iff.1 b).1, List.all_eq_true.1 a2⟩
theorem num_facts {p : Hp.Ps} (hn : Hp.numB p = true) : (0 ≤ p.lev ∧ p.lev ≤ 5) ∧ (2 ≤ p.bx ∧ p.bx ≤ 6) ∧ (2 ≤ p.yb ∧ p.yb ≤ 6) ∧ (1 ≤ p.lay ∧ p.lay ≤ 16) := by
  unfold Hp.numB at hn
  simp only [Bool.and_eq_true, Hp.in_iff] at hn
  exact ⟨hn.1, hn.2.1.1, hn.2.1.2, hn.2.2.1⟩
theorem pok {h : Hp.Hd} {p : Hp.Ps} (hz : Hp.headM h = 0) (hn : Hp.numB p = true) (hf : Hp.fitB p = true) : POk h p := by
  obtain ⟨a, b, c, d⟩ := num_facts hn
  obtain ⟨e, _, f⟩ := head_zero hz
  refine ⟨a, b, c, d, fun r r0 r1 => ?_, fun x hx => ?_, (hdB_facts e).2.2.2.2.1⟩
  · unfold Hp.precM
    rw [if_neg (by omega)]
    by_cases h0 : p.prec.length = 0
    · rw [if_pos h0]
      dsimp only
      omega
    · rw [if_neg h0]
      unfold Hp.fitB at hf
      rw [decide_eq_false h0, Bool.false_or] at hf
      obtain ⟨f1, f2⟩ := Bool.and_eq_true_iff.1 hf
      have f1 := of_decide_eq_true f1
      have f2 := of_decide_eq_true f2
      rw [if_neg (by omega)]
      have := f2 r.toNat (by omega)
      unfold Hp.ptB at this
      obtain ⟨g1, g2⟩ := Bool.and_eq_true_iff.1 this
      have g1 := Hp.in_iff.1 g1
      have g2 := Hp.in_iff.1 g2
      rw [show ((r.toNat : Nat) : Int) = r by omega] at g1 g2
      exact ⟨g1, g2⟩
  · have := f x hx
    unfold Hp.cmB at this
    simp only [Bool.and_eq_true, Hp.in_iff] at this
    have q := this.2.1
    omega
set_option maxHeartbeats 8000000 in
theorem check_c (h : Hp.Hd) (p : Hp.Ps) (sh s s2 : Option Addr) (mh m m2 : Nat) (W : World) (l1 : h.cs.length ≤ 4398046511104) (l2 : p.prec.length ≤ 4398046511104) (l3 : p.steps.length ≤ 4398046511104) (hC : HoldsC W sh h.cs) (hP : HoldsP W s p.prec) (hS : HoldsI W s2 p.steps) : Calls Try.prog 11 #[.agg (hvA h sh mh), .agg (pvA p s m s2 m2)] W fun e w' => e = .returned (.int .i64 (Hp.chkM h p)) ∧ Below W.heap.size W w' := by
  obtain ⟨WB, hWB⟩ : ∃ ww, ww = ((W.alloc (.cells (hvA h sh mh) 26)).alloc (.cells (pvA p s m s2 m2) 35)) := ⟨_, rfl⟩
  have hb0 : Below W.heap.size W WB := by rw [hWB]; exact (below_alloc (below_alloc (Below.refl _ W) (Nat.le_refl _) _) (by simp <;> omega) _)
  have B0 := Lib.hid hb0
  have hH : Blk WB (W.heap.size) 26 (hvA h sh mh) := by
    have := Blk.new (W) 26 (hvA h sh mh)
    rw [hWB]
    exact ((show Blk _ (W.heap.size) _ _ by simpa using this)).alloc _
  have HH0 := Lib.hid hH
  have hP : Blk WB (W.heap.size + 1) 35 (pvA p s m s2 m2) := by
    have := Blk.new ((W.alloc (.cells (hvA h sh mh) 26))) 35 (pvA p s m s2 m2)
    rw [hWB]
    exact (show Blk _ (W.heap.size + 1) _ _ by simpa using this)
  have HP0 := Lib.hid hP
  have HWB := Lib.hid hWB
  clear hb0 hWB hH hP
  have HB0 := B0
  have k1 := header_c h sh mh WB l1 (hC.below B0.out (Nat.le_refl _))
  have K2 := Lib.hid (fun (w : World) (_ : Below W.heap.size W w) => known_c p s s2 m m2 w)
  have K3 := Lib.hid (fun (w : World) (hb : Below W.heap.size W w) => inRange_c p s s2 m m2 w l3 (hS.below hb (Nat.le_refl _)))
  have HM := Lib.hid (show Hp.chkM h p = if Hp.headM h ≠ 0 then Hp.headM h else if Hp.knB p = false then 3 else if (Hp.numB p && (Hp.fitB p && Hp.colB h p)) = false then 13 else if Hp.crwB h p = true then 5 else 0 from rfl)
  have HW2 := HWB.out
  clear HWB B0
  unfold hvA pvA at HW2
  show Calls Try.prog 11 #[.agg #[.int .i64 h.a, .int .i64 h.b, .int .i64 h.c, .int .i64 h.d, .int .i64 h.tw, .int .i64 h.th, .slice sh h.cs.length mh], .agg #[.int .i64 p.kern, .int .i64 p.lev, .int .i64 p.col, .int .i64 p.bx, .int .i64 p.yb, .slice s p.prec.length m, .int .i64 p.ord, .int .i64 p.lay, .bool p.m0, .bool p.m1, .bool p.m2, .bool p.m3, .bool p.m4, .bool p.dv, .bool p.sy, .bool p.fe, .slice s2 p.steps.length m2, .int .i64 p.dead, .int .i64 p.sh]] W _
  by_cases hz : Hp.headM h = 0
  · rw [hz] at k1
    cases hk : Hp.knB p with
    | false =>
      rw [hk] at K2
      rw [HM.out, if_neg (by rw [hz]; decide), if_pos hk]
      clear HM hz hk
      go_enter Try.func11, Try.ntmps11
      go_upto_region 1 with fail
      rw [← HW2]
      clear HW2
      go_wp2_with (first | (refine wpList_load_mid rfl 26 (.tmp 2) rfl W.heap.size 0 rfl (hvA h sh mh).toList _ HH0.out.range Try.underlying26 rfl info7 ?_) | (refine wpList_load_mid rfl 35 (.tmp 3) rfl (W.heap.size + 1) 0 rfl (pvA p s m s2 m2).toList _ HP1.out.range Try.underlying35 rfl info19 ?_) | (refine wpList_load_mid rfl 35 (.tmp 3) rfl (W.heap.size + 1) 0 rfl (pvA p s m s2 m2).toList _ HP2.out.range Try.underlying35 rfl info19 ?_) | (refine load_mid_g (by rfl) 35 (.tmp 3) rfl (W.heap.size + 1) 0 rfl (pvA p s m s2 m2).toList _ HP3.out.range Try.underlying35 rfl info19 ?_) | (refine load_mid_g (by rfl) 26 (.tmp 2) rfl W.heap.size 0 rfl (hvA h sh mh).toList _ HH4.out.range Try.underlying26 rfl info7 ?_) | (refine load_mid_g (by rfl) 35 (.tmp 3) rfl (W.heap.size + 1) 0 rfl (pvA p s m s2 m2).toList _ HP4.out.range Try.underlying35 rfl info19 ?_) | (refine wpList_load_mid rfl 26 (.tmp 2) rfl W.heap.size 0 rfl (hvA h sh mh).toList _ HH5.out.range Try.underlying26 rfl info7 ?_) | (refine wpList_load_mid rfl 35 (.tmp 3) rfl (W.heap.size + 1) 0 rfl (pvA p s m s2 m2).toList _ HP5.out.range Try.underlying35 rfl info19 ?_) | (go_at_call 24; (with_reducible refine k1.mono ?_); rintro e w1 ⟨rfl, hb1⟩; have HH1 := Lib.hid (HH0.out.below hb1); have HP1 := Lib.hid (HP0.out.below hb1); have HB1 := Lib.hid (HB0.out.trans (hb1.mono HB0.out.size)); clear hb1; have k2 := K2.out w1 HB1.out) | (go_at_call 30; (with_reducible refine k2.mono ?_); rintro e w2 ⟨rfl, hb2⟩; have HH2 := Lib.hid (HH1.out.below hb2); have HP2 := Lib.hid (HP1.out.below hb2); have HB2 := Lib.hid (HB1.out.trans (hb2.mono HB1.out.size)); clear hb2) | fail)
      go_ret
      exact ⟨rfl, HB2.out⟩
    | true =>
      rw [hk] at K2
      cases hn : Hp.numB p with
      | false =>
        rw [hn] at K3
        rw [HM.out, if_neg (by rw [hz]; decide), if_neg (by rw [hk]; decide), if_pos (by rw [hn]; rfl)]
        clear HM hz hk hn
        go_enter Try.func11, Try.ntmps11
        go_upto_region 1 with fail
        rw [← HW2]
        clear HW2
        go_wp2_with (first | (refine wpList_load_mid rfl 26 (.tmp 2) rfl W.heap.size 0 rfl (hvA h sh mh).toList _ HH0.out.range Try.underlying26 rfl info7 ?_) | (refine wpList_load_mid rfl 35 (.tmp 3) rfl (W.heap.size + 1) 0 rfl (pvA p s m s2 m2).toList _ HP1.out.range Try.underlying35 rfl info19 ?_) | (refine wpList_load_mid rfl 35 (.tmp 3) rfl (W.heap.size + 1) 0 rfl (pvA p s m s2 m2).toList _ HP2.out.range Try.underlying35 rfl info19 ?_) | (refine load_mid_g (by rfl) 35 (.tmp 3) rfl (W.heap.size + 1) 0 rfl (pvA p s m s2 m2).toList _ HP3.out.range Try.underlying35 rfl info19 ?_) | (refine load_mid_g (by rfl) 26 (.tmp 2) rfl W.heap.size 0 rfl (hvA h sh mh).toList _ HH4.out.range Try.underlying26 rfl info7 ?_) | (refine load_mid_g (by rfl) 35 (.tmp 3) rfl (W.heap.size + 1) 0 rfl (pvA p s m s2 m2).toList _ HP4.out.range Try.underlying35 rfl info19 ?_) | (refine wpList_load_mid rfl 26 (.tmp 2) rfl W.heap.size 0 rfl (hvA h sh mh).toList _ HH5.out.range Try.underlying26 rfl info7 ?_) | (refine wpList_load_mid rfl 35 (.tmp 3) rfl (W.heap.size + 1) 0 rfl (pvA p s m s2 m2).toList _ HP5.out.range Try.underlying35 rfl info19 ?_) | (go_at_call 24; (with_reducible refine k1.mono ?_); rintro e w1 ⟨rfl, hb1⟩; have HH1 := Lib.hid (HH0.out.below hb1); have HP1 := Lib.hid (HP0.out.below hb1); have HB1 := Lib.hid (HB0.out.trans (hb1.mono HB0.out.size)); clear hb1; have k2 := K2.out w1 HB1.out) | (go_at_call 30; (with_reducible refine k2.mono ?_); rintro e w2 ⟨rfl, hb2⟩; have HH2 := Lib.hid (HH1.out.below hb2); have HP2 := Lib.hid (HP1.out.below hb2); have HB2 := Lib.hid (HB1.out.trans (hb2.mono HB1.out.size)); clear hb2; have k3 := K3.out w2 HB2.out) | (go_at_call 31; (with_reducible refine k3.mono ?_); rintro e w3 ⟨rfl, hb3⟩; have HH3 := Lib.hid (HH2.out.below hb3); have HP3 := Lib.hid (HP2.out.below hb3); have HB3 := Lib.hid (HB2.out.trans (hb3.mono HB2.out.size)); clear hb3) | fail)
        go_ret
        exact ⟨rfl, HB3.out⟩
      | true =>
        rw [hn] at K3
        have K4 := Lib.hid (fun (w : World) (hb : Below W.heap.size W w) => fits_c p s s2 m m2 w l2 (num_facts hn).1 (hP.below hb (Nat.le_refl _)))
        cases hf : Hp.fitB p with
        | false =>
          rw [hf] at K4
          rw [HM.out, if_neg (by rw [hz]; decide), if_neg (by rw [hk]; decide), if_pos (by rw [hn, hf]; rfl)]
          clear HM hz hk hn hf
          go_enter Try.func11, Try.ntmps11
          go_upto_region 1 with fail
          rw [← HW2]
          clear HW2
          go_wp2_with (first | (refine wpList_load_mid rfl 26 (.tmp 2) rfl W.heap.size 0 rfl (hvA h sh mh).toList _ HH0.out.range Try.underlying26 rfl info7 ?_) | (refine wpList_load_mid rfl 35 (.tmp 3) rfl (W.heap.size + 1) 0 rfl (pvA p s m s2 m2).toList _ HP1.out.range Try.underlying35 rfl info19 ?_) | (refine wpList_load_mid rfl 35 (.tmp 3) rfl (W.heap.size + 1) 0 rfl (pvA p s m s2 m2).toList _ HP2.out.range Try.underlying35 rfl info19 ?_) | (refine load_mid_g (by rfl) 35 (.tmp 3) rfl (W.heap.size + 1) 0 rfl (pvA p s m s2 m2).toList _ HP3.out.range Try.underlying35 rfl info19 ?_) | (refine load_mid_g (by rfl) 26 (.tmp 2) rfl W.heap.size 0 rfl (hvA h sh mh).toList _ HH4.out.range Try.underlying26 rfl info7 ?_) | (refine load_mid_g (by rfl) 35 (.tmp 3) rfl (W.heap.size + 1) 0 rfl (pvA p s m s2 m2).toList _ HP4.out.range Try.underlying35 rfl info19 ?_) | (refine wpList_load_mid rfl 26 (.tmp 2) rfl W.heap.size 0 rfl (hvA h sh mh).toList _ HH5.out.range Try.underlying26 rfl info7 ?_) | (refine wpList_load_mid rfl 35 (.tmp 3) rfl (W.heap.size + 1) 0 rfl (pvA p s m s2 m2).toList _ HP5.out.range Try.underlying35 rfl info19 ?_) | (go_at_call 24; (with_reducible refine k1.mono ?_); rintro e w1 ⟨rfl, hb1⟩; have HH1 := Lib.hid (HH0.out.below hb1); have HP1 := Lib.hid (HP0.out.below hb1); have HB1 := Lib.hid (HB0.out.trans (hb1.mono HB0.out.size)); clear hb1; have k2 := K2.out w1 HB1.out) | (go_at_call 30; (with_reducible refine k2.mono ?_); rintro e w2 ⟨rfl, hb2⟩; have HH2 := Lib.hid (HH1.out.below hb2); have HP2 := Lib.hid (HP1.out.below hb2); have HB2 := Lib.hid (HB1.out.trans (hb2.mono HB1.out.size)); clear hb2; have k3 := K3.out w2 HB2.out) | (go_at_call 31; (with_reducible refine k3.mono ?_); rintro e w3 ⟨rfl, hb3⟩; have HH3 := Lib.hid (HH2.out.below hb3); have HP3 := Lib.hid (HP2.out.below hb3); have HB3 := Lib.hid (HB2.out.trans (hb3.mono HB2.out.size)); clear hb3; have k4 := K4.out w3 HB3.out) | (go_at_call 32; (with_reducible refine k4.mono ?_); rintro e w4 ⟨rfl, hb4⟩; have HH4 := Lib.hid (HH3.out.below hb4); have HP4 := Lib.hid (HP3.out.below hb4); have HB4 := Lib.hid (HB3.out.trans (hb4.mono HB3.out.size)); clear hb4) | fail)
          go_ret
          exact ⟨rfl, HB4.out⟩
        | true =>
          rw [hf] at K4
          have hd := (head_zero hz).1
          have K5 := Lib.hid (fun (w : World) (hb : Below W.heap.size W w) => colorFits_c h p sh s s2 mh m m2 w (hdB_facts hd).2.2.2.2.1 (hC.below hb (Nat.le_refl _)))
          cases hcl : Hp.colB h p with
          | false =>
            rw [hcl] at K5
            rw [HM.out, if_neg (by rw [hz]; decide), if_neg (by rw [hk]; decide), if_pos (by rw [hn, hf, hcl]; rfl)]
            clear HM hz hk hn hf hcl hd
            go_enter Try.func11, Try.ntmps11
            go_upto_region 1 with fail
            rw [← HW2]
            clear HW2
            go_wp2_with (first | (refine wpList_load_mid rfl 26 (.tmp 2) rfl W.heap.size 0 rfl (hvA h sh mh).toList _ HH0.out.range Try.underlying26 rfl info7 ?_) | (refine wpList_load_mid rfl 35 (.tmp 3) rfl (W.heap.size + 1) 0 rfl (pvA p s m s2 m2).toList _ HP1.out.range Try.underlying35 rfl info19 ?_) | (refine wpList_load_mid rfl 35 (.tmp 3) rfl (W.heap.size + 1) 0 rfl (pvA p s m s2 m2).toList _ HP2.out.range Try.underlying35 rfl info19 ?_) | (refine load_mid_g (by rfl) 35 (.tmp 3) rfl (W.heap.size + 1) 0 rfl (pvA p s m s2 m2).toList _ HP3.out.range Try.underlying35 rfl info19 ?_) | (refine load_mid_g (by rfl) 26 (.tmp 2) rfl W.heap.size 0 rfl (hvA h sh mh).toList _ HH4.out.range Try.underlying26 rfl info7 ?_) | (refine load_mid_g (by rfl) 35 (.tmp 3) rfl (W.heap.size + 1) 0 rfl (pvA p s m s2 m2).toList _ HP4.out.range Try.underlying35 rfl info19 ?_) | (refine wpList_load_mid rfl 26 (.tmp 2) rfl W.heap.size 0 rfl (hvA h sh mh).toList _ HH5.out.range Try.underlying26 rfl info7 ?_) | (refine wpList_load_mid rfl 35 (.tmp 3) rfl (W.heap.size + 1) 0 rfl (pvA p s m s2 m2).toList _ HP5.out.range Try.underlying35 rfl info19 ?_) | (go_at_call 24; (with_reducible refine k1.mono ?_); rintro e w1 ⟨rfl, hb1⟩; have HH1 := Lib.hid (HH0.out.below hb1); have HP1 := Lib.hid (HP0.out.below hb1); have HB1 := Lib.hid (HB0.out.trans (hb1.mono HB0.out.size)); clear hb1; have k2 := K2.out w1 HB1.out) | (go_at_call 30; (with_reducible refine k2.mono ?_); rintro e w2 ⟨rfl, hb2⟩; have HH2 := Lib.hid (HH1.out.below hb2); have HP2 := Lib.hid (HP1.out.below hb2); have HB2 := Lib.hid (HB1.out.trans (hb2.mono HB1.out.size)); clear hb2; have k3 := K3.out w2 HB2.out) | (go_at_call 31; (with_reducible refine k3.mono ?_); rintro e w3 ⟨rfl, hb3⟩; have HH3 := Lib.hid (HH2.out.below hb3); have HP3 := Lib.hid (HP2.out.below hb3); have HB3 := Lib.hid (HB2.out.trans (hb3.mono HB2.out.size)); clear hb3; have k4 := K4.out w3 HB3.out) | (go_at_call 32; (with_reducible refine k4.mono ?_); rintro e w4 ⟨rfl, hb4⟩; have HH4 := Lib.hid (HH3.out.below hb4); have HP4 := Lib.hid (HP3.out.below hb4); have HB4 := Lib.hid (HB3.out.trans (hb4.mono HB3.out.size)); clear hb4; have k5 := K5.out w4 HB4.out) | (go_at_call 33; (with_reducible refine k5.mono ?_); rintro e w5 ⟨rfl, hb5⟩; have HH5 := Lib.hid (HH4.out.below hb5); have HP5 := Lib.hid (HP4.out.below hb5); have HB5 := Lib.hid (HB4.out.trans (hb5.mono HB4.out.size)); clear hb5) | fail)
            go_ret
            exact ⟨rfl, HB5.out⟩
          | true =>
            rw [hcl] at K5
            have K6 := Lib.hid (fun (w : World) (hb : Below W.heap.size W w) => crowded_c h p sh s s2 mh m m2 w (Hp.tls hd (head_zero hz).2.1) hd (pok hz hn hf) (hC.below hb (Nat.le_refl _)) (hP.below hb (Nat.le_refl _)))
            cases hcr : Hp.crwB h p with
            | false =>
              rw [hcr] at K6
              rw [HM.out, if_neg (by rw [hz]; decide), if_neg (by rw [hk]; decide), if_neg (by rw [hn, hf, hcl]; decide), if_neg (by rw [hcr]; decide)]
              clear HM hz hk hn hf hcl hd hcr
              go_enter Try.func11, Try.ntmps11
              go_upto_region 1 with fail
              rw [← HW2]
              clear HW2
              go_wp2_with (first | (refine wpList_load_mid rfl 26 (.tmp 2) rfl W.heap.size 0 rfl (hvA h sh mh).toList _ HH0.out.range Try.underlying26 rfl info7 ?_) | (refine wpList_load_mid rfl 35 (.tmp 3) rfl (W.heap.size + 1) 0 rfl (pvA p s m s2 m2).toList _ HP1.out.range Try.underlying35 rfl info19 ?_) | (refine wpList_load_mid rfl 35 (.tmp 3) rfl (W.heap.size + 1) 0 rfl (pvA p s m s2 m2).toList _ HP2.out.range Try.underlying35 rfl info19 ?_) | (refine load_mid_g (by rfl) 35 (.tmp 3) rfl (W.heap.size + 1) 0 rfl (pvA p s m s2 m2).toList _ HP3.out.range Try.underlying35 rfl info19 ?_) | (refine load_mid_g (by rfl) 26 (.tmp 2) rfl W.heap.size 0 rfl (hvA h sh mh).toList _ HH4.out.range Try.underlying26 rfl info7 ?_) | (refine load_mid_g (by rfl) 35 (.tmp 3) rfl (W.heap.size + 1) 0 rfl (pvA p s m s2 m2).toList _ HP4.out.range Try.underlying35 rfl info19 ?_) | (refine wpList_load_mid rfl 26 (.tmp 2) rfl W.heap.size 0 rfl (hvA h sh mh).toList _ HH5.out.range Try.underlying26 rfl info7 ?_) | (refine wpList_load_mid rfl 35 (.tmp 3) rfl (W.heap.size + 1) 0 rfl (pvA p s m s2 m2).toList _ HP5.out.range Try.underlying35 rfl info19 ?_) | (go_at_call 24; (with_reducible refine k1.mono ?_); rintro e w1 ⟨rfl, hb1⟩; have HH1 := Lib.hid (HH0.out.below hb1); have HP1 := Lib.hid (HP0.out.below hb1); have HB1 := Lib.hid (HB0.out.trans (hb1.mono HB0.out.size)); clear hb1; have k2 := K2.out w1 HB1.out) | (go_at_call 30; (with_reducible refine k2.mono ?_); rintro e w2 ⟨rfl, hb2⟩; have HH2 := Lib.hid (HH1.out.below hb2); have HP2 := Lib.hid (HP1.out.below hb2); have HB2 := Lib.hid (HB1.out.trans (hb2.mono HB1.out.size)); clear hb2; have k3 := K3.out w2 HB2.out) | (go_at_call 31; (with_reducible refine k3.mono ?_); rintro e w3 ⟨rfl, hb3⟩; have HH3 := Lib.hid (HH2.out.below hb3); have HP3 := Lib.hid (HP2.out.below hb3); have HB3 := Lib.hid (HB2.out.trans (hb3.mono HB2.out.size)); clear hb3; have k4 := K4.out w3 HB3.out) | (go_at_call 32; (with_reducible refine k4.mono ?_); rintro e w4 ⟨rfl, hb4⟩; have HH4 := Lib.hid (HH3.out.below hb4); have HP4 := Lib.hid (HP3.out.below hb4); have HB4 := Lib.hid (HB3.out.trans (hb4.mono HB3.out.size)); clear hb4; have k5 := K5.out w4 HB4.out) | (go_at_call 33; (with_reducible refine k5.mono ?_); rintro e w5 ⟨rfl, hb5⟩; have HH5 := Lib.hid (HH4.out.below hb5); have HP5 := Lib.hid (HP4.out.below hb5); have HB5 := Lib.hid (HB4.out.trans (hb5.mono HB4.out.size)); clear hb5; have k6 := K6.out w5 HB5.out) | (go_at_call 34; (with_reducible refine k6.mono ?_); rintro e w6 ⟨rfl, hb6⟩; have HH6 := Lib.hid (HH5.out.below hb6); have HP6 := Lib.hid (HP5.out.below hb6); have HB6 := Lib.hid (HB5.out.trans (hb6.mono HB5.out.size)); clear hb6) | fail)
              go_ret
              exact ⟨rfl, HB6.out⟩
            | true =>
              rw [hcr] at K6
              rw [HM.out, if_neg (by rw [hz]; decide), if_neg (by rw [hk]; decide), if_neg (by rw [hn, hf, hcl]; decide), if_pos hcr]
              clear HM hz hk hn hf hcl hd hcr
              go_enter Try.func11, Try.ntmps11
              go_upto_region 1 with fail
              rw [← HW2]
              clear HW2
              go_wp2_with (first | (refine wpList_load_mid rfl 26 (.tmp 2) rfl W.heap.size 0 rfl (hvA h sh mh).toList _ HH0.out.range Try.underlying26 rfl info7 ?_) | (refine wpList_load_mid rfl 35 (.tmp 3) rfl (W.heap.size + 1) 0 rfl (pvA p s m s2 m2).toList _ HP1.out.range Try.underlying35 rfl info19 ?_) | (refine wpList_load_mid rfl 35 (.tmp 3) rfl (W.heap.size + 1) 0 rfl (pvA p s m s2 m2).toList _ HP2.out.range Try.underlying35 rfl info19 ?_) | (refine load_mid_g (by rfl) 35 (.tmp 3) rfl (W.heap.size + 1) 0 rfl (pvA p s m s2 m2).toList _ HP3.out.range Try.underlying35 rfl info19 ?_) | (refine load_mid_g (by rfl) 26 (.tmp 2) rfl W.heap.size 0 rfl (hvA h sh mh).toList _ HH4.out.range Try.underlying26 rfl info7 ?_) | (refine load_mid_g (by rfl) 35 (.tmp 3) rfl (W.heap.size + 1) 0 rfl (pvA p s m s2 m2).toList _ HP4.out.range Try.underlying35 rfl info19 ?_) | (refine wpList_load_mid rfl 26 (.tmp 2) rfl W.heap.size 0 rfl (hvA h sh mh).toList _ HH5.out.range Try.underlying26 rfl info7 ?_) | (refine wpList_load_mid rfl 35 (.tmp 3) rfl (W.heap.size + 1) 0 rfl (pvA p s m s2 m2).toList _ HP5.out.range Try.underlying35 rfl info19 ?_) | (go_at_call 24; (with_reducible refine k1.mono ?_); rintro e w1 ⟨rfl, hb1⟩; have HH1 := Lib.hid (HH0.out.below hb1); have HP1 := Lib.hid (HP0.out.below hb1); have HB1 := Lib.hid (HB0.out.trans (hb1.mono HB0.out.size)); clear hb1; have k2 := K2.out w1 HB1.out) | (go_at_call 30; (with_reducible refine k2.mono ?_); rintro e w2 ⟨rfl, hb2⟩; have HH2 := Lib.hid (HH1.out.below hb2); have HP2 := Lib.hid (HP1.out.below hb2); have HB2 := Lib.hid (HB1.out.trans (hb2.mono HB1.out.size)); clear hb2; have k3 := K3.out w2 HB2.out) | (go_at_call 31; (with_reducible refine k3.mono ?_); rintro e w3 ⟨rfl, hb3⟩; have HH3 := Lib.hid (HH2.out.below hb3); have HP3 := Lib.hid (HP2.out.below hb3); have HB3 := Lib.hid (HB2.out.trans (hb3.mono HB2.out.size)); clear hb3; have k4 := K4.out w3 HB3.out) | (go_at_call 32; (with_reducible refine k4.mono ?_); rintro e w4 ⟨rfl, hb4⟩; have HH4 := Lib.hid (HH3.out.below hb4); have HP4 := Lib.hid (HP3.out.below hb4); have HB4 := Lib.hid (HB3.out.trans (hb4.mono HB3.out.size)); clear hb4; have k5 := K5.out w4 HB4.out) | (go_at_call 33; (with_reducible refine k5.mono ?_); rintro e w5 ⟨rfl, hb5⟩; have HH5 := Lib.hid (HH4.out.below hb5); have HP5 := Lib.hid (HP4.out.below hb5); have HB5 := Lib.hid (HB4.out.trans (hb5.mono HB4.out.size)); clear hb5; have k6 := K6.out w5 HB5.out) | (go_at_call 34; (with_reducible refine k6.mono ?_); rintro e w6 ⟨rfl, hb6⟩; have HH6 := Lib.hid (HH5.out.below hb6); have HP6 := Lib.hid (HP5.out.below hb6); have HB6 := Lib.hid (HB5.out.trans (hb6.mono HB5.out.size)); clear hb6) | fail)
              go_ret
              exact ⟨rfl, HB6.out⟩
  · have t0 : (Hp.headM h != 0) = true := by simpa using hz
    rw [HM.out, if_pos hz]
    clear HM hz
    generalize Hp.headM h = HZ at *
    go_enter Try.func11, Try.ntmps11
    go_upto_region 1 with fail
    rw [← HW2]
    clear HW2
    go_wp2_with (first | (refine wpList_load_mid rfl 26 (.tmp 2) rfl W.heap.size 0 rfl (hvA h sh mh).toList _ HH0.out.range Try.underlying26 rfl info7 ?_) | (refine wpList_load_mid rfl 35 (.tmp 3) rfl (W.heap.size + 1) 0 rfl (pvA p s m s2 m2).toList _ HP1.out.range Try.underlying35 rfl info19 ?_) | (refine wpList_load_mid rfl 35 (.tmp 3) rfl (W.heap.size + 1) 0 rfl (pvA p s m s2 m2).toList _ HP2.out.range Try.underlying35 rfl info19 ?_) | (refine load_mid_g (by rfl) 35 (.tmp 3) rfl (W.heap.size + 1) 0 rfl (pvA p s m s2 m2).toList _ HP3.out.range Try.underlying35 rfl info19 ?_) | (refine load_mid_g (by rfl) 26 (.tmp 2) rfl W.heap.size 0 rfl (hvA h sh mh).toList _ HH4.out.range Try.underlying26 rfl info7 ?_) | (refine load_mid_g (by rfl) 35 (.tmp 3) rfl (W.heap.size + 1) 0 rfl (pvA p s m s2 m2).toList _ HP4.out.range Try.underlying35 rfl info19 ?_) | (refine wpList_load_mid rfl 26 (.tmp 2) rfl W.heap.size 0 rfl (hvA h sh mh).toList _ HH5.out.range Try.underlying26 rfl info7 ?_) | (refine wpList_load_mid rfl 35 (.tmp 3) rfl (W.heap.size + 1) 0 rfl (pvA p s m s2 m2).toList _ HP5.out.range Try.underlying35 rfl info19 ?_) | (go_at_call 24; (with_reducible refine k1.mono ?_); rintro e w1 ⟨rfl, hb1⟩; have HH1 := Lib.hid (HH0.out.below hb1); have HP1 := Lib.hid (HP0.out.below hb1); have HB1 := Lib.hid (HB0.out.trans (hb1.mono HB0.out.size)); clear hb1) | fail)
    go_ret
    exact ⟨rfl, HB1.out⟩
end Go.Proofs.Ytkcjbehfhcmiaaa
