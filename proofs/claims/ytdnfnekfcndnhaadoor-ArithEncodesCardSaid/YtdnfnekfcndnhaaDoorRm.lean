/-
  Layer 11, ArithEncodes: the walk.
-/
import Derived.Test.YtdnfnekfcndnhaaDoorRk
import Derived.Test.YtdnfnekfcndnhaaDoorRl
import Derived.Test.YtdnfnekfcndnhaaDoorRj
import Derived.Test.YtdnfnekfcndnhaaDoorLa
set_option maxRecDepth 100000
namespace Go.Proofs.YtdnfnekfcndnhaaDoor
open Go.RowKit

theorem new_far {W : World} {X : Obj} {a : Nat} (hf : ∀ k, Fp W a k → k < W.heap.size) : ¬ Fp (W.alloc X).drew a W.heap.size ∧ ¬ Fp (W.alloc X) a W.heap.size := by
  have key : ∀ W1, Below W.heap.size W W1 → ¬ Fp W1 a W.heap.size := fun W1 hb hg => by
    have := hf _ ((fp_same (hb.block a (hf a (.inl rfl))) _).1 hg)
    omega
  have hb := (Below.refl W.heap.size W).alloc (Nat.le_refl _) X
  exact ⟨key _ hb.drew, key _ hb⟩
set_option maxHeartbeats 8000000 in
theorem walk_y (N : Nat) (l : List Cl) (s : Option Addr) (m : Nat) (w : World) (h : HoldsC w s l) (hl : l.length ≤ 300) (hN1 : 1 ≤ N) (hN2 : N ≤ 64) (hfw : Calls Tryd.prog 4 #[.slice s l.length m] w fun e w' => e = .returned (.bool true) ∧ w = w') :
    Calls Tryd.prog 3 #[.int .i64 (N : Int), .slice s l.length m] w fun e w' => e = .returned (.bool true) ∧ Below w.heap.size w w' := by
  have H := Lib.hid h
  clear h
  go_enter Tryd.func3, Tryd.ntmps3
  go_wp2_with (first | (go_at_call 4; (with_reducible refine hfw.mono ?_); rintro e wn ⟨rfl, rfl⟩))
  refine (enew_y N _ hN1 hN2).mono ?_
  rintro e W1 ⟨b, rfl, hE1, hB1⟩
  clear hfw
  go_wp2_with fail
  refine (vnew_y N _ hN1 hN2).mono ?_
  rintro e W2 ⟨c, rfl, hV2, hB2⟩
  have hI : Hid (Le N 0 w b c W2) := ⟨⟨x0 N, hE1.below hB2, hV2.lower hB1.size, x0_ok N, List.length_replicate, Nat.le_refl _⟩, Dj.new hB2 hE1.fl (fun k hk => (hV2.fp k hk).1), below_call hB1 hB2⟩
  have hp1 := fun W => ptrEn W ⟨b, 0, none⟩
  have hp2 := fun W => ptrVn W ⟨c, 0, none⟩
  clear hE1 hB1 hV2 hB2
  go_wp2_with fail
  go_loopw [37] (fun i wr => ∃ k : Nat, k ≤ l.length ∧ i = .int .i64 (k : Int) ∧ Hid (Le N k w b c wr)) (fun i _ => l.length - (intOf i).toNat)
  case atStart => exact ⟨0, Nat.zero_le _, rfl, hI⟩
  case round =>
    obtain ⟨k, hk, rfl, hT⟩ := hrel
    by_cases hlt : k < l.length
    · obtain ⟨bo, off, rfl, c0, c1, c2, sd, md, c3, _⟩ := ((H.out).below hT.out.below).at hlt
      obtain ⟨q, hq⟩ : ∃ q, q = l[k] := ⟨_, rfl⟩
      rw [← hq] at c0 c1 c2 c3
      clear hq
      obtain ⟨q0, q1, q2, D⟩ := q
      dsimp only at c0 c1 c2 c3
      obtain ⟨dl, hdle⟩ : ∃ dl, dl = D.length := ⟨_, rfl⟩
      rw [← hdle] at c3
      clear hdle
      obtain ⟨g, hg⟩ : ∃ g, g = wr.heap.size := ⟨_, rfl⟩
      have o0 : Blk (wr.alloc (.cells #[.int .i64 q0, .int .i64 q1, .int .i64 q2, .slice sd dl md] 34)) g 34 #[.int .i64 q0, .int .i64 q1, .int .i64 q2, .slice sd dl md] := by rw [hg]; exact Blk.new wr _ _
      have T0 := hT.out.step ((Below.refl _ _).alloc (Nat.le_refl _) (.cells #[.int .i64 q0, .int .i64 q1, .int .i64 q2, .slice sd dl md] 34))
      have F0 : Hid (¬ Fp (wr.alloc (.cells #[.int .i64 q0, .int .i64 q1, .int .i64 q2, .slice sd dl md] 34)).drew b g ∧ ¬ Fp (wr.alloc (.cells #[.int .i64 q0, .int .i64 q1, .int .i64 q2, .slice sd dl md] 34)) b g) := by rw [hg]; exact new_far hT.out.fl.1
      have F1 : Hid (¬ Fp (wr.alloc (.cells #[.int .i64 q0, .int .i64 q1, .int .i64 q2, .slice sd dl md] 34)).drew c g ∧ ¬ Fp (wr.alloc (.cells #[.int .i64 q0, .int .i64 q1, .int .i64 q2, .slice sd dl md] 34)) c g) := by rw [hg]; exact new_far hT.out.fl.2
      have KC : Hid (∀ x1 x2 : World, Kp b (wr.alloc (.cells #[.int .i64 q0, .int .i64 q1, .int .i64 q2, .slice sd dl md] 34)) x1 → Kp c x1 x2 → Blk x2 g 34 #[.int .i64 q0, .int .i64 q1, .int .i64 q2, .slice sd dl md]) := fun x1 x2 h1 h2 => by
        have o2 : Blk x1 g 34 #[.int .i64 q0, .int .i64 q1, .int .i64 q2, .slice sd dl md] := (h1.block g o0.lt F0.out.2).trans o0
        have hc := (T0.dj.kp h1 T0.fl.2).2 c (.inl rfl)
        exact (h2.block g o2.lt (fun hf => F1.out.2 ((fp_same hc g).1 hf))).trans o2
      have HG := Lib.hid hg
      by_cases h3 : q0 = 3
      · subst h3
        have hrs := both_ereset N k w _ b c T0 hN1 hN2
        clear T0 o0 hg
        go_wp2_with fail
        refine hrs.mono ?_
        rintro e x1 ⟨rfl, hK1, hss⟩
        have HK1 := Lib.hid hK1
        clear hK1
        go_wp2_with fail
        refine hss.mono ?_
        rintro e x2 ⟨rfl, hK2, hL2⟩
        have k1 : x2.cell? ⟨wr.heap.size, 1, none⟩ = some (.int .i64 q1) := by
          have := (KC.out _ _ HK1.out hK2).cell 1
          rw [HG.out] at this
          exact this
        have L2 := Lib.hid hL2
        clear hL2 hrs hss hK2 c0 c1 c2 c3
        obtain ⟨y, e1, e2, e3, e4, e5⟩ := L2.out.both
        have cs1 : ∀ n, Calls Tryd.prog 15 #[.pointer (some ⟨b, 0, none⟩)] (x2.drewN n) fun e w' => e = .returned (.int .i64 (szF y.2)) ∧ w' = x2.drewN n := fun n => (esize_c (x2.drewN n) _ b y (e1.below (drewN_below x2 n)) (by omega)).mono fun _ _ z => ⟨z.1, z.2.symm⟩
        have cs2 : ∀ n, Calls Tryd.prog 16 #[.pointer (some ⟨c, 0, none⟩)] (x2.drewN n) fun e w' => e = .returned (.int .i64 (szF y.2)) ∧ w' = x2.drewN n := fun n => (vsize_c (x2.drewN n) _ c y (e2.below (drewN_below x2 n)) (by omega) (by omega) (by omega)).mono fun _ _ z => ⟨z.1, z.2.symm⟩
        have cp1 : ∀ n, Calls Tryd.prog 17 #[.pointer (some ⟨b, 0, none⟩), .int .i64 q1] (x2.drewN n) fun e w' => e = .returned (.int .i64 (if 0 ≤ q1 ∧ q1 < (y.1.length : Int) then Am.pr y q1 else 0)) ∧ w' = x2.drewN n := fun n => (eprob_c (x2.drewN n) _ b y q1 (e1.below (drewN_below x2 n)) (by omega)).mono fun _ _ z => ⟨z.1, z.2.symm⟩
        have cp2 : ∀ n, Calls Tryd.prog 18 #[.pointer (some ⟨c, 0, none⟩), .int .i64 q1] (x2.drewN n) fun e w' => e = .returned (.int .i64 (if 0 ≤ q1 ∧ q1 < (y.1.length : Int) then Am.pr y q1 else 0)) ∧ w' = x2.drewN n := fun n => (vprob_c (x2.drewN n) _ c y q1 (e2.below (drewN_below x2 n)) (by omega)).mono fun _ _ z => ⟨z.1, z.2.symm⟩
        generalize szF y.2 = z at cs1 cs2
        generalize (if 0 ≤ q1 ∧ q1 < (y.1.length : Int) then Am.pr y q1 else 0) = pz at cp1 cp2
        have hzz : (z != z) = false := by simp
        have hpp : (pz != pz) = false := by simp
        clear e1 e2 e3 e4 e5
        go_wp2_with fail
        go_quiet (first | (go_at_call 15; with_reducible exact Calls.quiet_of_same (cs1 _)) | (go_at_call 16; with_reducible exact Calls.quiet_of_same (cs2 _)) | (go_at_call 17; with_reducible exact Calls.quiet_of_same (cp1 _)) | (go_at_call 18; with_reducible exact Calls.quiet_of_same (cp2 _)))
        go_wp2_with fail
        go_roundw
        case rel => exact ⟨k + 1, by omega, by go_num, L2.out.step (drewN_below x2 _)⟩
        case measure => simp [intOf]; omega
      · have h3b : (q0 == 3) = false := by simpa using h3
        by_cases h2 : q0 = 2
        · subst h2
          obtain ⟨cw, hcw, htm⟩ := both_term N k w _ b c T0 hN1 hN2 (by omega)
          have HCW := Lib.hid hcw
          clear T0 o0 hg h3 h3b
          go_wp2_with fail
          refine htm.mono ?_
          rintro e x1 ⟨sl, ml, rfl, hK1, hss⟩
          have HK1 := Lib.hid hK1
          clear hK1
          go_wp2_with fail
          refine hss.mono ?_
          rintro e x2 ⟨s2, m2, rfl, hK2, hA, hB, hL2⟩
          have KB := Lib.hid (KC.out _ _ HK1.out hK2)
          have hsm := same11_t x2 cw sl (some s2) cw.length ml m2 rfl hA hB (by omega)
          have L1 := Lib.hid hL2
          clear hL2 htm hss hK2 hA hB c0 c1 c2 c3
          go_wp2_with fail
          refine hsm.mono ?_
          rintro e x3 ⟨rfl, hb3⟩
          have L2 := Lib.hid (L1.out.step hb3)
          have k1 : x3.cell? ⟨wr.heap.size, 1, none⟩ = some (.int .i64 q1) := by
            have := (KB.out.below hb3).cell 1
            rw [HG.out] at this
            exact this
          clear hsm hb3
          obtain ⟨y, e1, e2, e3, e4, e5⟩ := L2.out.both
          have cs1 : ∀ n, Calls Tryd.prog 15 #[.pointer (some ⟨b, 0, none⟩)] (x3.drewN n) fun e w' => e = .returned (.int .i64 (szF y.2)) ∧ w' = x3.drewN n := fun n => (esize_c (x3.drewN n) _ b y (e1.below (drewN_below x3 n)) (by omega)).mono fun _ _ z => ⟨z.1, z.2.symm⟩
          have cs2 : ∀ n, Calls Tryd.prog 16 #[.pointer (some ⟨c, 0, none⟩)] (x3.drewN n) fun e w' => e = .returned (.int .i64 (szF y.2)) ∧ w' = x3.drewN n := fun n => (vsize_c (x3.drewN n) _ c y (e2.below (drewN_below x3 n)) (by omega) (by omega) (by omega)).mono fun _ _ z => ⟨z.1, z.2.symm⟩
          have cp1 : ∀ n, Calls Tryd.prog 17 #[.pointer (some ⟨b, 0, none⟩), .int .i64 q1] (x3.drewN n) fun e w' => e = .returned (.int .i64 (if 0 ≤ q1 ∧ q1 < (y.1.length : Int) then Am.pr y q1 else 0)) ∧ w' = x3.drewN n := fun n => (eprob_c (x3.drewN n) _ b y q1 (e1.below (drewN_below x3 n)) (by omega)).mono fun _ _ z => ⟨z.1, z.2.symm⟩
          have cp2 : ∀ n, Calls Tryd.prog 18 #[.pointer (some ⟨c, 0, none⟩), .int .i64 q1] (x3.drewN n) fun e w' => e = .returned (.int .i64 (if 0 ≤ q1 ∧ q1 < (y.1.length : Int) then Am.pr y q1 else 0)) ∧ w' = x3.drewN n := fun n => (vprob_c (x3.drewN n) _ c y q1 (e2.below (drewN_below x3 n)) (by omega)).mono fun _ _ z => ⟨z.1, z.2.symm⟩
          generalize szF y.2 = z at cs1 cs2
          generalize (if 0 ≤ q1 ∧ q1 < (y.1.length : Int) then Am.pr y q1 else 0) = pz at cp1 cp2
          have hzz : (z != z) = false := by simp
          have hpp : (pz != pz) = false := by simp
          clear e1 e2 e3 e4 e5
          go_wp2_with fail
          go_quiet (first | (go_at_call 15; with_reducible exact Calls.quiet_of_same (cs1 _)) | (go_at_call 16; with_reducible exact Calls.quiet_of_same (cs2 _)) | (go_at_call 17; with_reducible exact Calls.quiet_of_same (cp1 _)) | (go_at_call 18; with_reducible exact Calls.quiet_of_same (cp2 _)))
          go_wp2_with fail
          go_roundw
          case rel => exact ⟨k + 1, by omega, by go_num, L2.out.step (drewN_below x3 _)⟩
          case measure => simp [intOf]; omega
        · have h2b : (q0 == 2) = false := by simpa using h2
          have o1 := Lib.hid o0.drew
          have T1 := T0.step (Below.refl _ _).drew
          obtain ⟨e0, hen⟩ := both_enc N k w _ b c q1 q2 T1 hN1 hN2 (by omega)
          have hee : (e0 != e0) = false := by simp
          have K0 : (wr.alloc (.cells #[.int .i64 q0, .int .i64 q1, .int .i64 q2, .slice sd dl md] 34)).drew.cell? ⟨g, 1, none⟩ = some (.int .i64 q1) ∧ (wr.alloc (.cells #[.int .i64 q0, .int .i64 q1, .int .i64 q2, .slice sd dl md] 34)).drew.cell? ⟨g, 2, none⟩ = some (.int .i64 q2) := ⟨o1.out.cell 1, o1.out.cell 2⟩
          have KD : Hid (∀ x1 : World, Kp b (wr.alloc (.cells #[.int .i64 q0, .int .i64 q1, .int .i64 q2, .slice sd dl md] 34)).drew x1 → x1.cell? ⟨g, 1, none⟩ = some (.int .i64 q1) ∧ x1.cell? ⟨g, 2, none⟩ = some (.int .i64 q2)) := fun x1 h1 => by
            have o2 : Blk x1 g 34 #[.int .i64 q0, .int .i64 q1, .int .i64 q2, .slice sd dl md] := (h1.block g o1.out.lt F0.out.1).trans o1.out
            exact ⟨o2.cell 1, o2.cell 2⟩
          have KE : Hid (∀ x1 x2 : World, Kp b (wr.alloc (.cells #[.int .i64 q0, .int .i64 q1, .int .i64 q2, .slice sd dl md] 34)).drew x1 → Kp c x1 x2 → x2.cell? ⟨g, 1, none⟩ = some (.int .i64 q1) ∧ x2.cell? ⟨g, 2, none⟩ = some (.int .i64 q2)) := fun x1 x2 h1 h2 => by
            have o2 : Blk x1 g 34 #[.int .i64 q0, .int .i64 q1, .int .i64 q2, .slice sd dl md] := (h1.block g o1.out.lt F0.out.1).trans o1.out
            have hc := (T1.dj.kp h1 T1.fl.2).2 c (.inl rfl)
            have o3 : Blk x2 g 34 #[.int .i64 q0, .int .i64 q1, .int .i64 q2, .slice sd dl md] := (h2.block g o2.lt (fun hf => F1.out.1 ((fp_same hc g).1 hf))).trans o2
            exact ⟨o3.cell 1, o3.cell 2⟩
          clear T0 o0 T1 h3 h2 o1
          go_upto_region 11 with fail
          rw [← HG.out]
          clear c0 c1 c2 c3 hg
          go_cut [55] from 43 to 55 (fun s55 wx => s55 = .bool false ∧ Hid (Le N (k + 1) w b c wx ∧ wx.cell? ⟨g, 1, none⟩ = some (.int .i64 q1)))
          case first =>
            go_region_held3 (fun w' => w'.cell? ⟨g, 1, none⟩ = some (.int .i64 q1) ∧ w'.cell? ⟨g, 2, none⟩ = some (.int .i64 q2))
              (first | (with_reducible exact K0) | (with_reducible exact K1) | (with_reducible exact K2) | fail)
              (first | (go_at_call 13; (with_reducible refine hen.mono ?_); rintro e x1 ⟨rfl, hK1, hss⟩; have K1 := KD.out _ hK1) | (go_at_call 14; (with_reducible refine hss.mono ?_); rintro e x2 ⟨rfl, hK2, hL2⟩; have K2 := KE.out _ _ hK1 hK2; have L2 := Lib.hid hL2; clear hL2) | fail)
            all_goals
              go_wp2_with fail
              go_meet
              exact ⟨rfl, L2.out, K2.1⟩
          case rest =>
            obtain ⟨rfl, hX⟩ := hcut
            have L2 := Lib.hid hX.out.1
            have k1 := hX.out.2
            clear hX hen K0
            obtain ⟨y, e1, e2, e3, e4, e5⟩ := L2.out.both
            have cs1 : ∀ n, Calls Tryd.prog 15 #[.pointer (some ⟨b, 0, none⟩)] (wc.drewN n) fun e w' => e = .returned (.int .i64 (szF y.2)) ∧ w' = wc.drewN n := fun n => (esize_c (wc.drewN n) _ b y (e1.below (drewN_below wc n)) (by omega)).mono fun _ _ z => ⟨z.1, z.2.symm⟩
            have cs2 : ∀ n, Calls Tryd.prog 16 #[.pointer (some ⟨c, 0, none⟩)] (wc.drewN n) fun e w' => e = .returned (.int .i64 (szF y.2)) ∧ w' = wc.drewN n := fun n => (vsize_c (wc.drewN n) _ c y (e2.below (drewN_below wc n)) (by omega) (by omega) (by omega)).mono fun _ _ z => ⟨z.1, z.2.symm⟩
            have cp1 : ∀ n, Calls Tryd.prog 17 #[.pointer (some ⟨b, 0, none⟩), .int .i64 q1] (wc.drewN n) fun e w' => e = .returned (.int .i64 (if 0 ≤ q1 ∧ q1 < (y.1.length : Int) then Am.pr y q1 else 0)) ∧ w' = wc.drewN n := fun n => (eprob_c (wc.drewN n) _ b y q1 (e1.below (drewN_below wc n)) (by omega)).mono fun _ _ z => ⟨z.1, z.2.symm⟩
            have cp2 : ∀ n, Calls Tryd.prog 18 #[.pointer (some ⟨c, 0, none⟩), .int .i64 q1] (wc.drewN n) fun e w' => e = .returned (.int .i64 (if 0 ≤ q1 ∧ q1 < (y.1.length : Int) then Am.pr y q1 else 0)) ∧ w' = wc.drewN n := fun n => (vprob_c (wc.drewN n) _ c y q1 (e2.below (drewN_below wc n)) (by omega)).mono fun _ _ z => ⟨z.1, z.2.symm⟩
            generalize szF y.2 = z at cs1 cs2
            generalize (if 0 ≤ q1 ∧ q1 < (y.1.length : Int) then Am.pr y q1 else 0) = pz at cp1 cp2
            have hzz : (z != z) = false := by simp
            have hpp : (pz != pz) = false := by simp
            clear e1 e2 e3 e4 e5
            go_wp2_with fail
            go_quiet (first | (go_at_call 15; with_reducible exact Calls.quiet_of_same (cs1 _)) | (go_at_call 16; with_reducible exact Calls.quiet_of_same (cs2 _)) | (go_at_call 17; with_reducible exact Calls.quiet_of_same (cp1 _)) | (go_at_call 18; with_reducible exact Calls.quiet_of_same (cp2 _)))
            go_wp2_with fail
            go_roundw
            case rel => exact ⟨k + 1, by omega, by go_num, L2.out.step (drewN_below wc _)⟩
            case measure => simp [intOf]; omega
    · obtain rfl : k = l.length := by omega
      obtain ⟨cw, hcw, htm⟩ := both_term N l.length w wr b c hT.out hN1 hN2 (by omega)
      have HCW := Lib.hid hcw
      go_wp2_with fail
      refine htm.mono ?_
      rintro e x1 ⟨sl, ml, rfl, hK1, hss⟩
      clear hK1
      go_wp2_with fail
      refine hss.mono ?_
      rintro e x2 ⟨s2, m2, rfl, hK2, hA, hB, hL2⟩
      have hsm := same11_t x2 cw sl (some s2) cw.length ml m2 rfl hA hB (by omega)
      have HB2 := Lib.hid hL2.below
      clear hL2 htm hss hK2 hA hB
      go_wp2_with fail
      refine hsm.mono ?_
      rintro e x3 ⟨rfl, hb3⟩
      have HB3 := Lib.hid (below_call HB2.out hb3)
      clear hsm hb3
      go_wp2_with fail
      refine (awake11_c _).mono ?_
      rintro e w5 ⟨rfl, hb5⟩
      go_wp2_with fail
      go_ret
      exact ⟨rfl, below_call HB3.out hb5⟩
end Go.Proofs.YtdnfnekfcndnhaaDoor
