/-
  Layer 22: contracts of the reference's cell, Precincts, place.
-/
import Derived.Test.YtcdjkofgnelgeaaPe
set_option maxRecDepth 100000
namespace Go.Proofs.Ytcdjkofgnelgeaa
open Go.RowKit

theorem u_fact {e : Int} (h0 : 0 ≤ e) (h : e ≤ 12) : IntKind.u64.wrap e = e := by
  unfold IntKind.wrap
  simp [IntKind.bits, IntKind.signed]
  omega
set_option maxHeartbeats 2000000 in
theorem rcell_c (x y ea eb : Int) (hx : 0 ≤ x ∧ x ≤ 4096) (hy : 0 ≤ y ∧ y ≤ 4096) (h1 : 0 ≤ ea ∧ ea ≤ 12) (h2 : 0 ≤ eb ∧ eb ≤ 12) (W : World) : Calls Try.prog 31 #[.int .i64 x, .int .i64 y, .int .i64 ea, .int .i64 eb] W fun e w' => e = .returned (.agg #[.int .i64 (x * Pl.pw ea), .int .i64 (y * Pl.pw eb), .int .i64 (x * Pl.pw ea + Pl.pw ea), .int .i64 (y * Pl.pw eb + Pl.pw eb)]) ∧ Below W.heap.size W w' := by
  obtain ⟨sa, wa1, wa2, wa3⟩ := pw_facts (e := ea) (m := 12) (by omega) (by omega)
  obtain ⟨sb, wb1, wb2, wb3⟩ := pw_facts (e := eb) (m := 12) (by omega) (by omega)
  obtain ⟨_, _, m1, m2, m3⟩ := mul_small hx ⟨wa2, wa3⟩
  obtain ⟨_, _, m4, m5, m6⟩ := mul_small hy ⟨wb2, wb3⟩
  have u1 := u_fact h1.1 h1.2
  have u2 := u_fact h2.1 h2.2
  generalize Pl.pw ea = wa at *
  generalize Pl.pw eb = wb at *
  clear hx hy wa2 wa3 wb2 wb3
  obtain ⟨a1, a2⟩ := h1
  obtain ⟨b1, b2⟩ := h2
  obtain ⟨WB, hWB⟩ : ∃ ww, ww = (W.alloc (.cells #[.int .i64 0, .int .i64 0, .int .i64 0, .int .i64 0] 23)) := ⟨_, rfl⟩
  have hb0 : Below W.heap.size W WB := by rw [hWB]; exact (below_alloc (Below.refl _ W) (Nat.le_refl _) _)
  have B0 := Lib.hid hb0
  have hR : Blk WB (W.heap.size) 23 #[.int .i64 0, .int .i64 0, .int .i64 0, .int .i64 0] := by
    have := Blk.new (W) 23 #[.int .i64 0, .int .i64 0, .int .i64 0, .int .i64 0]
    rw [hWB]
    exact (show Blk _ (W.heap.size) _ _ by simpa using this)
  have HR0 := Lib.hid hR
  have HWB := Lib.hid hWB
  clear hb0 hWB hR
  go_enter Try.func31, Try.ntmps31
  go_wp2_with fail
  refine bodyPost_ret (results_r rfl _ rfl (Blk.new W _ _)) rfl ?_
  exact ⟨rfl, below_alloc (Below.refl _ _) (Nat.le_refl _) _⟩
theorem cols_wrap {X0 X1 : Int} {n : Nat} (h0 : 0 ≤ X0) (h1 : X0 < X1) (h2 : X1 ≤ 4096) (h : X1 - X0 = (n : Int)) : IntKind.i64.wrap (X1 - X0) = (n : Int) := by
  rw [IntWalk.i64_left, h]
  unfold wrap64
  omega
theorem prod_wrap {m n : Nat} (h1 : m ≤ 4096) (h2 : n ≤ 4096) : IntKind.i64.wrap ((m : Int) * (n : Int)) = ((m * n : Nat) : Int) := by
  have : m * n ≤ 4096 * 4096 := Nat.mul_le_mul h1 h2
  rw [← Int.natCast_mul, IntWalk.i64_left]
  unfold wrap64
  omega
set_option maxHeartbeats 4000000 in
theorem rprecincts_c (a b c d ea eb : Int) (W : World) : Calls Try.prog 9 #[.agg #[.int .i64 a, .int .i64 b, .int .i64 c, .int .i64 d], .int .i64 ea, .int .i64 eb] W fun e w' => e = .returned (.tuple #[.int .i64 (Pl.colsI a b c d ea eb 12), .int .i64 (Pl.rowsI a b c d ea eb 12)]) ∧ Below W.heap.size W w' := by
  obtain ⟨WB, hWB⟩ : ∃ ww, ww = (W.alloc (.cells #[.int .i64 a, .int .i64 b, .int .i64 c, .int .i64 d] 23)) := ⟨_, rfl⟩
  have hb0 : Below W.heap.size W WB := by rw [hWB]; exact (below_alloc (Below.refl _ W) (Nat.le_refl _) _)
  have B0 := Lib.hid hb0
  have hX : Blk WB (W.heap.size) 23 #[.int .i64 a, .int .i64 b, .int .i64 c, .int .i64 d] := by
    have := Blk.new (W) 23 #[.int .i64 a, .int .i64 b, .int .i64 c, .int .i64 d]
    rw [hWB]
    exact (show Blk _ (W.heap.size) _ _ by simpa using this)
  have HX0 := Lib.hid hX
  have HWB := Lib.hid hWB
  clear hb0 hWB hX
  have kv := fun W1 : World => valid_r a b c d W1
  have ke := fun W1 : World => empty_r a b c d W1
  by_cases hv : Pl.validB a b c d = true
  · rw [hv] at kv
    by_cases he : Pl.emptyB a b c d = true
    · rw [he] at ke
      have hq : ¬ Pl.gridOk a b c d ea eb 12 := fun h => by have := h.2.1; rw [he] at this; exact Bool.noConfusion this
      rw [show Pl.colsI a b c d ea eb 12 = 0 from if_neg hq, show Pl.rowsI a b c d ea eb 12 = 0 from if_neg hq]
      clear hv he
      clear hq
      go_enter Try.func9, Try.ntmps9
      go_wp2_with (first | (go_at_call 23; (with_reducible refine (kv _).mono ?_); rintro e w1 ⟨rfl, hb1⟩; have hb := (show Below WB.heap.size WB w1 by rw [HWB.out]; exact hb1); clear hb1; have B1 := Lib.hid (B0.out.trans (hb.mono B0.out.size)); have HX1 := Lib.hid (HX0.out.below hb); obtain ⟨x0, x1, x2, x3⟩ := HX1.out.four; clear hb) | (go_at_call 24; (with_reducible refine (ke _).mono ?_); rintro e w2 ⟨rfl, hb2⟩; clear x0 x1 x2 x3; have B2 := Lib.hid (B1.out.trans (hb2.mono B1.out.size)); have HX2 := Lib.hid (HX1.out.below hb2); obtain ⟨x0, x1, x2, x3⟩ := HX2.out.four; clear hb2) | fail)
      go_ret2
      exact ⟨rfl, B2.out⟩
    · have he' : Pl.emptyB a b c d = false := by simpa using he
      rw [he'] at ke
      by_cases g1 : ea < 0
      ·
        have hq : ¬ Pl.gridOk a b c d ea eb 12 := fun h => by have := h.2.2.1; omega
        rw [show Pl.colsI a b c d ea eb 12 = 0 from if_neg hq, show Pl.rowsI a b c d ea eb 12 = 0 from if_neg hq]
        clear hv he he'
        clear hq
        go_enter Try.func9, Try.ntmps9
        go_wp2_with (first | (go_at_call 23; (with_reducible refine (kv _).mono ?_); rintro e w1 ⟨rfl, hb1⟩; have hb := (show Below WB.heap.size WB w1 by rw [HWB.out]; exact hb1); clear hb1; have B1 := Lib.hid (B0.out.trans (hb.mono B0.out.size)); have HX1 := Lib.hid (HX0.out.below hb); obtain ⟨x0, x1, x2, x3⟩ := HX1.out.four; clear hb) | (go_at_call 24; (with_reducible refine (ke _).mono ?_); rintro e w2 ⟨rfl, hb2⟩; clear x0 x1 x2 x3; have B2 := Lib.hid (B1.out.trans (hb2.mono B1.out.size)); have HX2 := Lib.hid (HX1.out.below hb2); obtain ⟨x0, x1, x2, x3⟩ := HX2.out.four; clear hb2) | fail)
        go_ret2
        exact ⟨rfl, B2.out⟩
      · by_cases g2 : 12 < ea
        ·
          have hq : ¬ Pl.gridOk a b c d ea eb 12 := fun h => by have := h.2.2.2.1; omega
          rw [show Pl.colsI a b c d ea eb 12 = 0 from if_neg hq, show Pl.rowsI a b c d ea eb 12 = 0 from if_neg hq]
          clear hv he he'
          clear hq
          go_enter Try.func9, Try.ntmps9
          go_wp2_with (first | (go_at_call 23; (with_reducible refine (kv _).mono ?_); rintro e w1 ⟨rfl, hb1⟩; have hb := (show Below WB.heap.size WB w1 by rw [HWB.out]; exact hb1); clear hb1; have B1 := Lib.hid (B0.out.trans (hb.mono B0.out.size)); have HX1 := Lib.hid (HX0.out.below hb); obtain ⟨x0, x1, x2, x3⟩ := HX1.out.four; clear hb) | (go_at_call 24; (with_reducible refine (ke _).mono ?_); rintro e w2 ⟨rfl, hb2⟩; clear x0 x1 x2 x3; have B2 := Lib.hid (B1.out.trans (hb2.mono B1.out.size)); have HX2 := Lib.hid (HX1.out.below hb2); obtain ⟨x0, x1, x2, x3⟩ := HX2.out.four; clear hb2) | fail)
          go_ret2
          exact ⟨rfl, B2.out⟩
        · by_cases g3 : eb < 0
          ·
            have hq : ¬ Pl.gridOk a b c d ea eb 12 := fun h => by have := h.2.2.2.2.1; omega
            rw [show Pl.colsI a b c d ea eb 12 = 0 from if_neg hq, show Pl.rowsI a b c d ea eb 12 = 0 from if_neg hq]
            clear hv he he'
            clear hq
            go_enter Try.func9, Try.ntmps9
            go_wp2_with (first | (go_at_call 23; (with_reducible refine (kv _).mono ?_); rintro e w1 ⟨rfl, hb1⟩; have hb := (show Below WB.heap.size WB w1 by rw [HWB.out]; exact hb1); clear hb1; have B1 := Lib.hid (B0.out.trans (hb.mono B0.out.size)); have HX1 := Lib.hid (HX0.out.below hb); obtain ⟨x0, x1, x2, x3⟩ := HX1.out.four; clear hb) | (go_at_call 24; (with_reducible refine (ke _).mono ?_); rintro e w2 ⟨rfl, hb2⟩; clear x0 x1 x2 x3; have B2 := Lib.hid (B1.out.trans (hb2.mono B1.out.size)); have HX2 := Lib.hid (HX1.out.below hb2); obtain ⟨x0, x1, x2, x3⟩ := HX2.out.four; clear hb2) | fail)
            go_ret2
            exact ⟨rfl, B2.out⟩
          · by_cases g4 : 12 < eb
            ·
              have hq : ¬ Pl.gridOk a b c d ea eb 12 := fun h => by have := h.2.2.2.2.2.1; omega
              rw [show Pl.colsI a b c d ea eb 12 = 0 from if_neg hq, show Pl.rowsI a b c d ea eb 12 = 0 from if_neg hq]
              clear hv he he'
              clear hq
              go_enter Try.func9, Try.ntmps9
              go_wp2_with (first | (go_at_call 23; (with_reducible refine (kv _).mono ?_); rintro e w1 ⟨rfl, hb1⟩; have hb := (show Below WB.heap.size WB w1 by rw [HWB.out]; exact hb1); clear hb1; have B1 := Lib.hid (B0.out.trans (hb.mono B0.out.size)); have HX1 := Lib.hid (HX0.out.below hb); obtain ⟨x0, x1, x2, x3⟩ := HX1.out.four; clear hb) | (go_at_call 24; (with_reducible refine (ke _).mono ?_); rintro e w2 ⟨rfl, hb2⟩; clear x0 x1 x2 x3; have B2 := Lib.hid (B1.out.trans (hb2.mono B1.out.size)); have HX2 := Lib.hid (HX1.out.below hb2); obtain ⟨x0, x1, x2, x3⟩ := HX2.out.four; clear hb2) | fail)
              go_ret2
              exact ⟨rfl, B2.out⟩
            · obtain ⟨sa, wa1, wa2, wa3⟩ := pw_facts (e := ea) (m := 12) (by omega) (by omega)
              obtain ⟨sb, wb1, wb2, wb3⟩ := pw_facts (e := eb) (m := 12) (by omega) (by omega)
              obtain ⟨v1, v2, v3, v4, v5, v6⟩ := Pl.valid_iff.1 hv
              obtain ⟨e1, e2⟩ := Pl.empty_not.1 he'
              have u1 := u_fact (e := ea) (by omega) (by omega)
              have u2 := u_fact (e := eb) (by omega) (by omega)
              have ax := Pl.axis (Pl.pw_pos ea) v1 e1 v3
              have ay := Pl.axis (Pl.pw_pos eb) v4 e2 v6
              have nx0 := Pl.nX_eq ax
              have ny0 := Pl.nX_eq ay
              have n1 := (Pl.Grid.pos (⟨ax, ay, e1, e2, Pl.pw_pos _, Pl.pw_pos _⟩ : Pl.Grid a b c d (Pl.pw ea) (Pl.pw eb))).2.2
              have k1 := fun W1 : World => cd_rs c (Pl.pw ea) W1 (by omega) (by omega)
              have k2 := fun W1 : World => cd_rs d (Pl.pw eb) W1 (by omega) (by omega)
              have k3 := fun W1 : World => fd_rs a (Pl.pw ea) W1 (by omega) (by omega)
              have k4 := fun W1 : World => fd_rs b (Pl.pw eb) W1 (by omega) (by omega)
              have q1 := cols_wrap ax.lo ax.lt ax.hi (show Pl.cd c (Pl.pw ea) - Pl.fd a (Pl.pw ea) = (Pl.nX a c (Pl.pw ea) : Int) by omega)
              have q2 := cols_wrap ay.lo ay.lt ay.hi (show Pl.cd d (Pl.pw eb) - Pl.fd b (Pl.pw eb) = (Pl.nX b d (Pl.pw eb) : Int) by omega)
              have q3 := prod_wrap n1.1 n1.2
              clear n1
              by_cases hn : Pl.nX a c (Pl.pw ea) * Pl.nX b d (Pl.pw eb) ≤ 65536
              · have hq : Pl.gridOk a b c d ea eb 12 := ⟨hv, he', by omega, by omega, by omega, by omega, hn⟩
                rw [show Pl.colsI a b c d ea eb 12 = (Pl.nX a c (Pl.pw ea) : Int) from if_pos hq, show Pl.rowsI a b c d ea eb 12 = (Pl.nX b d (Pl.pw eb) : Int) from if_pos hq]
                clear hq
                have t5 : ¬ ((65536 : Int) < ((Pl.nX a c (Pl.pw ea) * Pl.nX b d (Pl.pw eb) : Nat) : Int)) := by omega
                generalize ((Pl.nX a c (Pl.pw ea) * Pl.nX b d (Pl.pw eb) : Nat) : Int) = area at *
                clear hn
                generalize Pl.nX a c (Pl.pw ea) = nx at *
                generalize Pl.nX b d (Pl.pw eb) = ny at *
                clear hv he he' ax ay nx0 ny0 v1 v2 v3 v4 v5 v6 e1 e2 wa2 wa3 wb2 wb3
                generalize Pl.cd c (Pl.pw ea) = X1 at *
                generalize Pl.cd d (Pl.pw eb) = Y1 at *
                generalize Pl.fd a (Pl.pw ea) = X0 at *
                generalize Pl.fd b (Pl.pw eb) = Y0 at *
                generalize Pl.pw ea = wa at *
                generalize Pl.pw eb = wb at *
                go_enter Try.func9, Try.ntmps9
                go_wp2_with (first | (go_at_call 23; (with_reducible refine (kv _).mono ?_); rintro e w1 ⟨rfl, hb1⟩; have hb := (show Below WB.heap.size WB w1 by rw [HWB.out]; exact hb1); clear hb1; have B1 := Lib.hid (B0.out.trans (hb.mono B0.out.size)); have HX1 := Lib.hid (HX0.out.below hb); obtain ⟨x0, x1, x2, x3⟩ := HX1.out.four; clear hb) | (go_at_call 24; (with_reducible refine (ke _).mono ?_); rintro e w2 ⟨rfl, hb2⟩; clear x0 x1 x2 x3; have B2 := Lib.hid (B1.out.trans (hb2.mono B1.out.size)); have HX2 := Lib.hid (HX1.out.below hb2); obtain ⟨x0, x1, x2, x3⟩ := HX2.out.four; clear hb2) | fail)
                go_quiet ((first | (go_at_call 25; with_reducible exact Calls.quiet_of_same (k1 _)) | (go_at_call 25; with_reducible exact Calls.quiet_of_same (k2 _)) | (go_at_call 26; with_reducible exact Calls.quiet_of_same (k3 _)) | (go_at_call 26; with_reducible exact Calls.quiet_of_same (k4 _))))
                go_wp2_with fail
                have HX3 := Lib.hid (HX2.out.below (drewN_below w2 nq))
                have B3 := Lib.hid (B2.out.trans ((drewN_below w2 nq).mono B2.out.size))
                generalize w2.drewN nq = w3 at *
                clear x0 x1 x2 x3
                obtain ⟨x0, x1, x2, x3⟩ := HX3.out.four
                go_quiet ((first | (go_at_call 25; with_reducible exact Calls.quiet_of_same (k1 _)) | (go_at_call 25; with_reducible exact Calls.quiet_of_same (k2 _)) | (go_at_call 26; with_reducible exact Calls.quiet_of_same (k3 _)) | (go_at_call 26; with_reducible exact Calls.quiet_of_same (k4 _))))
                go_wp2_with fail
                go_ret2
                exact ⟨rfl, B3.out.trans ((drewN_below w3 _).mono B3.out.size)⟩
              · have hq : ¬ Pl.gridOk a b c d ea eb 12 := fun h => hn h.2.2.2.2.2.2
                rw [show Pl.colsI a b c d ea eb 12 = 0 from if_neg hq, show Pl.rowsI a b c d ea eb 12 = 0 from if_neg hq]
                clear hq
                have t5 : (65536 : Int) < ((Pl.nX a c (Pl.pw ea) * Pl.nX b d (Pl.pw eb) : Nat) : Int) := by omega
                generalize ((Pl.nX a c (Pl.pw ea) * Pl.nX b d (Pl.pw eb) : Nat) : Int) = area at *
                clear hn
                generalize Pl.nX a c (Pl.pw ea) = nx at *
                generalize Pl.nX b d (Pl.pw eb) = ny at *
                clear hv he he' ax ay nx0 ny0 v1 v2 v3 v4 v5 v6 e1 e2 wa2 wa3 wb2 wb3
                generalize Pl.cd c (Pl.pw ea) = X1 at *
                generalize Pl.cd d (Pl.pw eb) = Y1 at *
                generalize Pl.fd a (Pl.pw ea) = X0 at *
                generalize Pl.fd b (Pl.pw eb) = Y0 at *
                generalize Pl.pw ea = wa at *
                generalize Pl.pw eb = wb at *
                go_enter Try.func9, Try.ntmps9
                go_wp2_with (first | (go_at_call 23; (with_reducible refine (kv _).mono ?_); rintro e w1 ⟨rfl, hb1⟩; have hb := (show Below WB.heap.size WB w1 by rw [HWB.out]; exact hb1); clear hb1; have B1 := Lib.hid (B0.out.trans (hb.mono B0.out.size)); have HX1 := Lib.hid (HX0.out.below hb); obtain ⟨x0, x1, x2, x3⟩ := HX1.out.four; clear hb) | (go_at_call 24; (with_reducible refine (ke _).mono ?_); rintro e w2 ⟨rfl, hb2⟩; clear x0 x1 x2 x3; have B2 := Lib.hid (B1.out.trans (hb2.mono B1.out.size)); have HX2 := Lib.hid (HX1.out.below hb2); obtain ⟨x0, x1, x2, x3⟩ := HX2.out.four; clear hb2) | fail)
                go_quiet ((first | (go_at_call 25; with_reducible exact Calls.quiet_of_same (k1 _)) | (go_at_call 25; with_reducible exact Calls.quiet_of_same (k2 _)) | (go_at_call 26; with_reducible exact Calls.quiet_of_same (k3 _)) | (go_at_call 26; with_reducible exact Calls.quiet_of_same (k4 _))))
                go_wp2_with fail
                have HX3 := Lib.hid (HX2.out.below (drewN_below w2 nq))
                have B3 := Lib.hid (B2.out.trans ((drewN_below w2 nq).mono B2.out.size))
                generalize w2.drewN nq = w3 at *
                clear x0 x1 x2 x3
                obtain ⟨x0, x1, x2, x3⟩ := HX3.out.four
                go_quiet ((first | (go_at_call 25; with_reducible exact Calls.quiet_of_same (k1 _)) | (go_at_call 25; with_reducible exact Calls.quiet_of_same (k2 _)) | (go_at_call 26; with_reducible exact Calls.quiet_of_same (k3 _)) | (go_at_call 26; with_reducible exact Calls.quiet_of_same (k4 _))))
                go_wp2_with fail
                go_ret2
                exact ⟨rfl, B3.out.trans ((drewN_below w3 _).mono B3.out.size)⟩
  · have hv' : Pl.validB a b c d = false := by simpa using hv
    rw [hv'] at kv
    have hq : ¬ Pl.gridOk a b c d ea eb 12 := fun h => hv h.1
    rw [show Pl.colsI a b c d ea eb 12 = 0 from if_neg hq, show Pl.rowsI a b c d ea eb 12 = 0 from if_neg hq]
    clear hv hv'
    clear hq
    go_enter Try.func9, Try.ntmps9
    go_wp2_with (first | (go_at_call 23; (with_reducible refine (kv _).mono ?_); rintro e w1 ⟨rfl, hb1⟩; have hb := (show Below WB.heap.size WB w1 by rw [HWB.out]; exact hb1); clear hb1; have B1 := Lib.hid (B0.out.trans (hb.mono B0.out.size)); have HX1 := Lib.hid (HX0.out.below hb); obtain ⟨x0, x1, x2, x3⟩ := HX1.out.four; clear hb) | (go_at_call 24; (with_reducible refine (ke _).mono ?_); rintro e w2 ⟨rfl, hb2⟩; clear x0 x1 x2 x3; have B2 := Lib.hid (B1.out.trans (hb2.mono B1.out.size)); have HX2 := Lib.hid (HX1.out.below hb2); obtain ⟨x0, x1, x2, x3⟩ := HX2.out.four; clear hb2) | fail)
    go_ret2
    exact ⟨rfl, B1.out⟩
end Go.Proofs.Ytcdjkofgnelgeaa
