/-
  For all integers v and n, signals x, integers start and kernels k the statement LiftFlat returns true (arguments that it doesn't take are left alone), and its arguments read afterwards as before.
  Conditions: none beyond those of the given statement.
-/
import Derived.Test.YtpobmmdjcfdfoaaFrameB
namespace Go.Proofs.Ytpobmmdjcfdfoaa.liftFlat
open Go.ChangeShapes Go.WideShapes Go.ChangeAt Go.RowKit Go.Joins Go.Deep

set_option maxRecDepth 100000 in
set_option maxHeartbeats 2000000 in
theorem walk (v n : Int) (l : List Int) (st kn : Int) (s : Option Addr) (m : Nat) (hs : s = none → l.length = 0 ∧ m = 0) (w : World) (hH : HoldsI w s l) :
    Calls Try.prog 17 #[.int .i64 v, .int .i64 n, .slice s l.length m, .int .i64 st, .int .i64 kn] w fun e w' => e = .returned (.bool true) ∧ Below w.heap.size w w' := by
  by_cases h1 : n < 2
  · have B := Below.refl w.heap.size w
    go_enter Try.func17, Try.ntmps17
    go_wp2_with fail
    refine (example04_c _).mono ?_
    rintro e w1 ⟨rfl, hb⟩
    replace B := below_call B hb
    clear hb
    go_wp2
    go_ret
    exact ⟨rfl, B⟩
  · by_cases h2 : 200 < n
    · have B := Below.refl w.heap.size w
      go_enter Try.func17, Try.ntmps17
      go_wp2_with fail
      refine (example04_c _).mono ?_
      rintro e w1 ⟨rfl, hb⟩
      replace B := below_call B hb
      clear hb
      go_wp2
      go_ret
      exact ⟨rfl, B⟩
    · by_cases h3 : 281474976710656 < v
      · have B := Below.refl w.heap.size w
        go_enter Try.func17, Try.ntmps17
        go_wp2_with fail
        refine (example04_c _).mono ?_
        rintro e w1 ⟨rfl, hb⟩
        replace B := below_call B hb
        clear hb
        go_wp2
        go_ret
        exact ⟨rfl, B⟩
      · by_cases h4 : v < -281474976710656
        · have B := Below.refl w.heap.size w
          go_enter Try.func17, Try.ntmps17
          go_wp2_with fail
          refine (example04_c _).mono ?_
          rintro e w1 ⟨rfl, hb⟩
          replace B := below_call B hb
          clear hb
          go_wp2
          go_ret
          exact ⟨rfl, B⟩
        · by_cases h5 : 4094 < st
          · have B := Below.refl w.heap.size w
            go_enter Try.func17, Try.ntmps17
            go_wp2_with fail
            refine (example04_c _).mono ?_
            rintro e w1 ⟨rfl, hb⟩
            replace B := below_call B hb
            clear hb
            go_wp2
            go_ret
            exact ⟨rfl, B⟩
          · cases hva : vaB l st kn with
            | false =>
              have B := Below.refl w.heap.size w
              go_enter Try.func17, Try.ntmps17
              go_wp2_with fail
              refine (va_r _ _ _ _ _ _ hH).mono ?_
              rintro e wn ⟨rfl, rfl⟩
              go_wp2_with fail
              refine (example04_c _).mono ?_
              rintro e w1 ⟨rfl, hb⟩
              replace B := below_call B hb
              clear hb
              go_wp2
              go_ret
              exact ⟨rfl, B⟩
            | true =>
              obtain ⟨N, rfl⟩ : ∃ N : Nat, n = (N : Int) := ⟨n.toNat, by omega⟩
              have hf := va_fw hva
              obtain ⟨⟨hl2, hs0, hs4⟩, hkn, hw⟩ := va_iff.1 hva
              have hkk := k_iff.1 hkn
              have hmk := fun (W : World) => run_make_row' (P := Try.prog) 28 3 (.int .i64 0) 8 Try.underlying28 infoI rfl .i64 .i64 N (by omega) (by omega) W
              obtain ⟨p1, p2, p3⟩ := flat_parts v st kn N hkk (by omega)
              have hLl : (List.replicate N v).length = N := List.length_replicate
              have hLw : fwB (List.replicate N v) st = true := fw_iff.2 ⟨⟨hs0, hs4, by omega⟩, fun u hu => by rw [List.eq_of_mem_replicate hu]; omega⟩
              have hf2 : fwB l (st + 2) = true := fw_iff.2 ⟨⟨by omega, by omega, by omega⟩, hw⟩
              have cf0 := fun (w : World) (g : Nat) (a : HoldsI w (some ⟨g, 0, none⟩) (List.replicate N v)) => fwd_cn (List.replicate N v) N hLl.symm st kn (some ⟨g, 0, none⟩) N w hkn hLw (by simp) a
              have cf1 := fun (w : World) (a : HoldsI w s l) => fwd_cyes l st kn s m w hkn hf.2 hs a
              have cf2 := fun (w : World) (a : HoldsI w s l) => fwd_c2 l st kn s m w hkn hf2 hs a
              obtain ⟨le1, le2⟩ := split_le (fw_sp (kn := kn) hf.2)
              obtain ⟨le3, le4⟩ := split_le (fw_sp (kn := kn) hLw)
              generalize Ex.splitE st (Ex.fwdL st l kn) = E2 at *
              generalize Ex.splitO st (Ex.fwdL st l kn) = O2 at *
              generalize Ex.splitE st (Ex.fwdL st (List.replicate N v) kn) = E at *
              generalize Ex.splitO st (Ex.fwdL st (List.replicate N v) kn) = O at *
              have g0 := few_iff.2 p2
              have wE : IntKind.i64.wrap ((E.length : Int) + (O.length : Int)) = (N : Int) := by rw [IntWalk.i64_in _ (by omega)]; omega
              have w2' : IntKind.i64.wrap (st + 2) = st + 2 := IntWalk.i64_in _ (by omega)
              have HL : Hid _ := hLl
              clear p2 p3 hLw hf2 hw hLl hf
              have r0 := rowAt_made w N
              have B0 := below_alloc (Below.refl _ w) (.cells (madeCells #[.int .i64 0] N) 3)
              go_enter Try.func17, Try.ntmps17
              go_wp2_with (go_at_call 41; refine (va_r _ _ _ _ _ _ hH).mono ?_; rintro e wn ⟨rfl, rfl⟩)
              go_loopw [54] (fun i wr => ∃ k : Nat, k ≤ N ∧ i = .int .i64 k ∧ Below w.heap.size w wr ∧ RowAt wr w.heap.size (fillL (List.replicate N v) k)) (fun i _ => N - (intOf i).toNat)
              case atStart => exact ⟨0, Nat.zero_le _, rfl, B0, by rw [fillL_zero, HL.out]; exact r0⟩
              case round =>
                obtain ⟨k, hk, rfl, hB, hR⟩ := hrel
                clear r0 B0
                have w2 : IntKind.i64.wrap ((k : Int) + 1) = (k : Int) + 1 := IntWalk.i64_in _ (by omega)
                by_cases hlt : k < N
                · have hki : (k : Int) < (N : Int) := by omega
                  have hkL : k < (List.replicate N v).length := by rw [HL.out]; exact hlt
                  have y0 := hR.at (k := k) (by rw [fillL_len _ _ (by omega), HL.out]; exact hlt)
                  have z1 := hR.free k
                  have hR2 := hR.set k v
                  have hnx := fillL_next (List.replicate N v) k hkL
                  rw [List.getElem_replicate] at hnx
                  rw [hnx] at hR2
                  have HR : Hid _ := hR2
                  have HB : Hid _ := hB.setCell (p := ⟨w.heap.size, k, none⟩) (Nat.le_refl _) (.int .i64 v)
                  generalize (fillL (List.replicate N v) k)[k]'(by rw [fillL_len _ _ (by omega), HL.out]; exact hlt) = q at *
                  clear hR hR2 hnx hB
                  go_wp2
                  go_roundw
                  case rel => exact ⟨k + 1, by omega, by go_num, HB.out, HR.out⟩
                  case measure => simp [intOf]; omega
                · obtain rfl : k = N := by omega
                  have hfa := fillL_all (List.replicate k v)
                  rw [HL.out] at hfa
                  rw [hfa] at hR
                  have lx := hH.below hB (Nat.le_refl _)
                  have c0 := cf0 wr w.heap.size hR.holds
                  clear hfa hR cf0
                  go_wp2_with fail
                  refine c0.mono ?_
                  rintro e w2 ⟨s1, m1, s2, m2, rfl, l1, l2, hb, _, _⟩
                  have B := bcall hB hb hB.size
                  replace lx := lx.call hb
                  clear hb hB c0
                  go_wp2_with (go_at_call 42; refine (few_r O _ _ _ _ (by decide) (by decide) (by omega) l2).mono ?_; rintro e wn ⟨rfl, rfl⟩)
                  go_loopw [88] (fun i wr => ∃ k : Nat, k ≤ E.length ∧ i = .int .i64 k ∧ w2 = wr) (fun i _ => E.length - (intOf i).toNat)
                  case atStart => exact ⟨0, Nat.zero_le _, rfl, rfl⟩
                  case round =>
                    obtain ⟨k, hk, rfl, rfl⟩ := hrel
                    have w3 : IntKind.i64.wrap ((k : Int) + 1) = (k : Int) + 1 := IntWalk.i64_in _ (by omega)
                    by_cases hlt : k < E.length
                    · have hu := p1 _ (List.getElem_mem hlt)
                      rcases l1 with h0 | ⟨bb, off, rfl, hr⟩
                      · rw [h0] at hlt; exact absurd hlt (Nat.not_lt_zero _)
                      have y1 := hr k hlt
                      have hki : (k : Int) < (E.length : Int) := by omega
                      rw [hu] at y1
                      clear hu hr
                      go_wp2
                      go_roundw
                      case rel => exact ⟨k + 1, by omega, by go_num, by first | trivial | rfl⟩
                      case measure => simp [intOf]; omega
                    · obtain rfl : k = E.length := by omega
                      clear p1
                      go_wp2_with fail
                      refine (cf1 _ lx).mono ?_
                      rintro e w3 ⟨s3, m3, s4, m4, rfl, l3, l4, hb, _, _⟩
                      replace lx := lx.call hb
                      replace l1 := l1.call hb
                      replace l2 := l2.call hb
                      replace B := below_call B hb
                      clear hb
                      go_wp2_with fail
                      refine (cf2 _ lx).mono ?_
                      rintro e w4 ⟨s5, m5, s6, m6, rfl, l5, l6, hb, _, _⟩
                      replace lx := lx.call hb
                      replace l1 := l1.call hb
                      replace l2 := l2.call hb
                      replace l3 := l3.call hb
                      replace l4 := l4.call hb
                      replace B := below_call B hb
                      clear hb
                      go_wp2_with fail
                      refine (ints_t E2 _ rfl (by omega) _ _ _ _ _ l3 l5).mono ?_
                      rintro e w5 ⟨rfl, hb⟩
                      replace lx := lx.call hb
                      replace l1 := l1.call hb
                      replace l2 := l2.call hb
                      replace l3 := l3.call hb
                      replace l4 := l4.call hb
                      replace l5 := l5.call hb
                      replace l6 := l6.call hb
                      replace B := below_call B hb
                      clear hb
                      go_wp2_with fail
                      refine (ints_t O2 _ rfl (by omega) _ _ _ _ _ l4 l6).mono ?_
                      rintro e w6 ⟨rfl, hb⟩
                      replace lx := lx.call hb
                      replace l1 := l1.call hb
                      replace l2 := l2.call hb
                      replace l3 := l3.call hb
                      replace l4 := l4.call hb
                      replace l5 := l5.call hb
                      replace l6 := l6.call hb
                      replace B := below_call B hb
                      clear hb
                      go_wp2_with fail
                      refine (example04_c _).mono ?_
                      rintro e w7 ⟨rfl, hb⟩
                      replace lx := lx.call hb
                      replace l1 := l1.call hb
                      replace l2 := l2.call hb
                      replace l3 := l3.call hb
                      replace l4 := l4.call hb
                      replace l5 := l5.call hb
                      replace l6 := l6.call hb
                      replace B := below_call B hb
                      clear hb
                      go_wp2
                      go_ret
                      exact ⟨rfl, B⟩

set_option maxRecDepth 100000 in
theorem lifted (os : Os) (started : os.Started) (H : Type) (enc : TypeId × Value → H) :
    ReturnsInHanded {} Try.checked os 17 .any (Rows.liftFlatSpec.pre6 enc Try.prog Try.f17 Rows.liftFlatRow.domain false) (Rows.liftFlatSpec.post enc Try.prog Try.f17 false true false false) := by
  refine returnsInHanded_of_change (C := Try.checked) own started (by kernel_rfl) Try.func17
    (ChangeSpec.witness6 (enc := enc) (C := Try.checked) false ⟨#[], #[.int .i64 0, .int .i64 0, .slice none 0 0, .int .i64 0, .int .i64 0], []⟩ 8 (by kernel_rfl) (by kernel_rfl) (by kernel_rfl) (by kernel_rfl)) ?_
  intro W base args ds gs before hval0 hW _ _
  have hval : ∀ (j : Nat) t v, Try.f17.params[j]? = some t → args[j]? = some v → Value.okWide Try.prog W .any base t v := hval0
  have hW' := hW
  obtain ⟨p, q, hA0, hV, rfl, _, _⟩ := hW
  have hA : DataW.TrodAll enc Try.prog W 0 (fun _ => true) true Try.f17.params.toList args.toList ds p := hA0
  rw [Try.params17] at hA hval
  obtain ⟨v0, vs0, d0, ds0, p0, q0, hargs, rfl, rfl, h0, r0⟩ := trodAll_cons hA
  obtain ⟨v1, vs1, d1, ds1, p1, q1, rfl, rfl, rfl, h1, r1⟩ := trodAll_cons r0
  obtain ⟨v2, vs2, d2, ds2, p2, q2, rfl, rfl, rfl, h2, r2⟩ := trodAll_cons r1
  obtain ⟨v3, vs3, d3, ds3, p3, q3, rfl, rfl, rfl, h3, r3⟩ := trodAll_cons r2
  obtain ⟨v4, vs4, d4, ds4, p4, q4, rfl, rfl, rfl, h4, r4⟩ := trodAll_cons r3
  obtain ⟨rfl, rfl, rfl⟩ := trodAll_nil r4
  obtain rfl : args = #[v0, v1, v2, v3, v4] := by cases args; simp_all
  obtain ⟨rfl, rfl⟩ := trodVars_none hV
  clear hA0 hval0
  simp only [List.append_nil] at hW'
  have l0 : ∀ x ∈ p0, x.block < W.heap.size := fun x hx => hW'.lt x (by simp [hx])
  have l1 : ∀ x ∈ p1, x.block < W.heap.size := fun x hx => hW'.lt x (by simp [hx])
  have l2 : ∀ x ∈ p2, x.block < W.heap.size := fun x hx => hW'.lt x (by simp [hx])
  have l3 : ∀ x ∈ p3, x.block < W.heap.size := fun x hx => hW'.lt x (by simp [hx])
  have l4 : ∀ x ∈ p4, x.block < W.heap.size := fun x hx => hW'.lt x (by simp [hx])
  obtain ⟨v, rfl, _, _, wv⟩ := open_int Try.underlying3 (hval 0 3 v0 rfl rfl) h0
  obtain ⟨n, rfl, _, _, wn⟩ := open_int Try.underlying3 (hval 1 3 v1 rfl rfl) h1
  obtain ⟨s, l, m, rfl, hH2, hm2, hx2, hn2⟩ := open_intsT (hval 2 28 v2 rfl rfl) h2
  obtain ⟨st, rfl, _, _, wst⟩ := open_int Try.underlying3 (hval 3 3 v3 rfl rfl) h3
  obtain ⟨kn, rfl, _, _, wkn⟩ := open_int Try.underlying40 (hval 4 40 v4 rfl rfl) h4
  refine (walk v n l st kn s m hn2 W hH2).mono fun e W' ⟨he, hb⟩ => ?_
  subst he
  exact ⟨_, rfl, post_low (pa := p0 ++ (p1 ++ (p2 ++ (p3 ++ (p4 ++ ([])))))) (pv := []) hW' (fun _ _ _ => (trodAll_cons_mk (shut_bool Try.underlying4 _) trodAll_mk0)) (fun sp hsp => (trodAll_cons_mk (trod_low laidOut (by kernel_rfl) (of_decide_eq_true (by kernel_rfl)) h0 hb l0 (fun x hx => hsp x (by simp [hx]))) (trodAll_cons_mk (trod_low laidOut (by kernel_rfl) (of_decide_eq_true (by kernel_rfl)) h1 hb l1 (fun x hx => hsp x (by simp [hx]))) (trodAll_cons_mk (trod_low laidOut (by kernel_rfl) (of_decide_eq_true (by kernel_rfl)) h2 hb l2 (fun x hx => hsp x (by simp [hx]))) (trodAll_cons_mk (trod_low laidOut (by kernel_rfl) (of_decide_eq_true (by kernel_rfl)) h3 hb l3 (fun x hx => hsp x (by simp [hx]))) (trodAll_cons_mk (trod_low laidOut (by kernel_rfl) (of_decide_eq_true (by kernel_rfl)) h4 hb l4 (fun x hx => hsp x (by simp [hx]))) trodAll_mk0)))))) (fun _ _ => rfl) (by simp) hb (ok_one (by kernel_rfl) rfl (okWide_bool_mk Try.underlying4 _))⟩

theorem over : Rows.liftFlatRow.holds Try.pinned (OpenSpec.ofChange Rows.liftFlatSpec) :=
  OpenClaim.holds_of_wide 17 Try.f17 rfl rfl rfl rfl rfl rfl rfl ⟨rfl, rfl, rfl, rfl, rfl⟩ rfl rfl rfl rfl rfl (by kernel_rfl) Try.func17 (by kernel_rfl)
    (of_decide_eq_true (by kernel_rfl)) (by unfold Func.isWrapper; first | (rw [if_pos (by decide +kernel)]; kernel_rfl) | (rw [if_neg (by decide +kernel)]; exact ⟨rfl, rfl⟩))
    (fun os started H enc _ => lifted os started H enc)

theorem proved : Rows.LiftFlatSaid :=
  over
#print axioms proved
end Go.Proofs.Ytpobmmdjcfdfoaa.liftFlat
