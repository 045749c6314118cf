/-
  For every integer and every list of calls the statement ArithDecodes returns true: the code's decoder answers as the reference's does; the arguments read afterwards as before.
  Conditions: none beyond those of the given statement (the listed variables are tied by the card).
-/
import Derived.Test.YtbaappodeicomaaDoorSi
import Derived.Test.YtbaappodeicomaaDoorLb
import Derived.Test.YtbaappodeicomaaDoorFrameP
import Derived.Test.YtbaappodeicomaaDoorTie
import Derived.Test.YtbaappodeicomaaDoorCards
import Derived.LaidMore
import Derived.Lay
import Derived.SevenTiedAt
import Derived.Stop.Joined
set_option maxRecDepth 100000
namespace Go.Proofs.YtbaappodeicomaaDoor.arithDecodes
open Go.ChangeShapes Go.WideShapes Go.ChangeAt Go.RowKit Go.Joins Go.Deep

theorem new_far {W : World} {X : Obj} {a : Nat} (hf : ∀ k, Fp W a k → k < W.heap.size) : ¬ Fp (W.alloc X).drew a W.heap.size ∧ ¬ Fp (W.alloc X) a W.heap.size := by
  have key : ∀ W1, Below W.heap.size W W1 → ¬ Fp W1 a W.heap.size := fun W1 hb hg => by
    have := hf _ ((fp_same (hb.block a (hf a (.inl rfl))) _).1 hg)
    omega
  have hb := (Below.refl W.heap.size W).alloc (Nat.le_refl _) X
  exact ⟨key _ hb.drew, key _ hb⟩
set_option maxHeartbeats 8000000 in
theorem walk (n : Int) (l : List Cl) (s : Option Addr) (m : Nat) (w : World) (h : HoldsC w s l) :
    Calls Tryd.prog 5 #[.int .i64 n, .slice s l.length m] w fun e w' => e = .returned (.bool true) ∧ Below w.heap.size w w' := by
  have hfw := few11_c l s m w h
  cases hq : fewB l with
  | false =>
    rw [hq] at hfw
    clear hq
    go_enter Tryd.func5, Tryd.ntmps5
    go_wp2_with (first | (go_at_call 18; (with_reducible refine hfw.mono ?_); rintro e wn ⟨rfl, rfl⟩))
    refine (awake11_c _).mono ?_
    rintro e w2 ⟨rfl, hb2⟩
    go_wp2_with fail
    go_ret
    exact ⟨rfl, hb2⟩
  | true =>
  rw [hq] at hfw
  obtain ⟨hl, hd⟩ := (fewB_iff l).1 hq
  have H := Lib.hid h
  have HL := Lib.hid hd
  clear hq h hd
  by_cases hn : 1 ≤ n ∧ n ≤ 64
  · obtain ⟨N, rfl⟩ : ∃ N : Nat, n = N := ⟨n.toNat, by omega⟩
    have hN1 : 1 ≤ N := by omega
    have hN2 : N ≤ 64 := by omega
    clear hn
    go_enter Tryd.func5, Tryd.ntmps5
    go_wp2_with (first | (go_at_call 18; (with_reducible refine hfw.mono ?_); rintro e wn ⟨rfl, rfl⟩))
    refine (dnew_y N _ hN1 hN2).mono ?_
    rintro e W1 ⟨b, rfl, hD1, hB1⟩
    clear hfw
    go_wp2_with fail
    refine (snew_y N _ hN1 hN2).mono ?_
    rintro e W2 ⟨c, rfl, hD2, hB2⟩
    have hI : Hid (Ld N 0 w b c W2) := by
      obtain ⟨pv, dv, hS⟩ := hD2
      have hS2 : Sd0 W2 w.heap.size c (List.replicate N 2048) := ⟨pv, dv, hS.lower hB1.size⟩
      exact ⟨.inl ⟨_, hD1.below hB2, hS2, x0_ok N, List.length_replicate⟩, Dj.new hB2 hD1.fl (fun k hk => (hS.core.fp k hk).1), below_call hB1 hB2⟩
    have hp1 := fun W => ptrDn W ⟨b, 0, none⟩
    have hp2 := fun W => ptrSn W ⟨c, 0, none⟩
    clear hD1 hB1 hD2 hB2
    go_wp2_with fail
    go_loopw [41] (fun i wr => ∃ k : Nat, k ≤ l.length ∧ i = .int .i64 (k : Int) ∧ Hid (Ld N k w b c wr)) (fun i _ => l.length - (intOf i).toNat)
    case atStart => exact ⟨0, Nat.zero_le _, rfl, hI⟩
    case round =>
      obtain ⟨k, hk, rfl, hT⟩ := hrel
      by_cases hlt : k < l.length
      · obtain ⟨bo, off, rfl, c0, c1, c2, sd, md, c3, hH, hY, hN0⟩ := ((H.out).below hT.out.below).at hlt
        have hH0 : Hid (∃ s0 m0, HoldsB w s0 l[k].data ∧ (s0 = none → l[k].data = [] ∧ m0 = 0) ∧ Am.bytes l[k].data ∧ s0 = sd ∧ m0 = md) := by
          obtain ⟨bo', off', he, e0, _, _, s0, m0, e3, g1, g2, g3⟩ := H.out.at hlt
          simp at he
          obtain ⟨rfl, rfl⟩ := he
          have := ((hT.out.below.cell (p := ⟨bo, _, none⟩) (cell_lt e3)).trans e3).symm.trans c3
          simp at this
          exact ⟨s0, m0, g1, g3, g2, this.1, this.2⟩
        have hdl := HL.out _ (List.getElem_mem hlt)
        obtain ⟨q, hq⟩ : ∃ q, q = l[k] := ⟨_, rfl⟩
        rw [← hq] at c0 c1 c2 c3 hH0 hdl
        clear hq hH hY hN0
        obtain ⟨q0, q1, q2, D⟩ := q
        dsimp only at c0 c1 c2 c3 hH0 hdl
        have HDL := Lib.hid hdl
        obtain ⟨dl, hdle⟩ : ∃ dl, dl = D.length := ⟨_, rfl⟩
        have HDE := Lib.hid hdle
        rw [← hdle] at c3
        clear hdl hdle
        obtain ⟨g, hg⟩ : ∃ g, g = wr.heap.size := ⟨_, rfl⟩
        have o0 : Blk (wr.alloc (.cells #[.int .i64 q0, .int .i64 q1, .int .i64 q2, .slice sd dl md] 36)) g 36 #[.int .i64 q0, .int .i64 q1, .int .i64 q2, .slice sd dl md] := by rw [hg]; exact Blk.new wr _ _
        have T0 := hT.out.step ((Below.refl _ _).alloc (Nat.le_refl _) (.cells #[.int .i64 q0, .int .i64 q1, .int .i64 q2, .slice sd dl md] 36))
        have F0 : Hid (¬ Fp (wr.alloc (.cells #[.int .i64 q0, .int .i64 q1, .int .i64 q2, .slice sd dl md] 36)).drew b g ∧ ¬ Fp (wr.alloc (.cells #[.int .i64 q0, .int .i64 q1, .int .i64 q2, .slice sd dl md] 36)) b g) := by rw [hg]; exact new_far hT.out.both.fl.1
        by_cases h5 : q0 = 5
        · subst h5
          have o1 := Lib.hid o0.drew
          have T1 := T0.step (Below.refl _ _).drew
          have hst := both_start N k w _ b c sd md D T1 hN1 (by obtain ⟨s0, m0, g1, g2, g3, rfl, rfl⟩ := hH0.out; exact g1) (by obtain ⟨s0, m0, g1, g2, g3, rfl, rfl⟩ := hH0.out; exact g2) (by obtain ⟨s0, m0, g1, g2, g3, rfl, rfl⟩ := hH0.out; exact g3) HDL.out
          rw [← HDE.out] at hst
          have K0 : (wr.alloc (.cells #[.int .i64 5, .int .i64 q1, .int .i64 q2, .slice sd dl md] 36)).drew.cell? ⟨g, 3, none⟩ = some (.slice sd dl md) := o1.out.cell 3
          have FC : Hid (¬ Fp (wr.alloc (.cells #[.int .i64 5, .int .i64 q1, .int .i64 q2, .slice sd dl md] 36)).drew c g) := by rw [hg]; exact (new_far hT.out.both.fl.2).1
          have KD : Hid (∀ x1, Kp b (wr.alloc (.cells #[.int .i64 5, .int .i64 q1, .int .i64 q2, .slice sd dl md] 36)).drew x1 → x1.cell? ⟨g, 3, none⟩ = some (.slice sd dl md)) := fun x1 h1 => by
            have o2 : Blk x1 g 36 #[.int .i64 5, .int .i64 q1, .int .i64 q2, .slice sd dl md] := (h1.block g o1.out.lt F0.out.1).trans o1.out
            exact o2.cell 3
          have KE : Hid (∀ x1 x2, Kp b (wr.alloc (.cells #[.int .i64 5, .int .i64 q1, .int .i64 q2, .slice sd dl md] 36)).drew x1 → Kp c x1 x2 → x2.cell? ⟨g, 3, none⟩ = some (.slice sd dl md)) := fun x1 x2 h1 h2 => by
            have o2 : Blk x1 g 36 #[.int .i64 5, .int .i64 q1, .int .i64 q2, .slice sd dl md] := (h1.block g o1.out.lt F0.out.1).trans o1.out
            have hc := (T1.dj.kp h1 T1.both.fl.2).2 c (.inl rfl)
            have o3 : Blk x2 g 36 #[.int .i64 5, .int .i64 q1, .int .i64 q2, .slice sd dl md] := (h2.block g o2.lt (fun hf => FC.out ((fp_same hc g).1 hf))).trans o2
            exact o3.cell 3
          have HG := Lib.hid hg
          clear T0 o0 T1
          go_upto_region 16 with fail
          rw [← HG.out]
          clear c0 c1 c2 c3 hg
          go_cut [79] (fun s79 wx => s79 = .bool false ∧ Hid (Ld N (k + 1) w b c wx))
          case first =>
            go_region_held3 (fun w' => w'.cell? ⟨g, 3, none⟩ = some (.slice sd dl md))
              (first | (with_reducible exact K0) | (with_reducible exact K1) | (with_reducible exact K2) | fail)
              (first | (go_at_call 34; (with_reducible refine hst.mono ?_); rintro e x1 ⟨rfl, hK1, hss⟩; have K1 := KD.out _ hK1) | (go_at_call 35; (with_reducible refine hss.mono ?_); rintro e x2 ⟨rfl, hK2, hL2⟩; have K2 := KE.out _ _ hK1 hK2; have L2 := Lib.hid hL2; clear hL2) | fail)
            all_goals
              go_wp2_with fail
              go_meet
              exact ⟨rfl, L2⟩
          case rest =>
            obtain ⟨rfl, L2⟩ := hcut
            go_wp2_with fail
            go_roundw
            case rel => exact ⟨k + 1, by omega, by go_num, L2⟩
            case measure => simp [intOf]; omega
        · have h5b : (q0 == 5) = false := by simpa using h5
          by_cases h3 : q0 = 3
          · subst h3
            have hrs := both_reset N k w _ b c T0 hN1 hN2
            clear T0 h5 h5b o0 hg
            go_wp2_with fail
            refine hrs.mono ?_
            rintro e x1 ⟨rfl, _, hss⟩
            go_wp2_with fail
            refine hss.mono ?_
            rintro e x2 ⟨rfl, _, hL2⟩
            have L2 := Lib.hid hL2
            clear hL2 hrs hss
            go_wp2_with fail
            go_roundw
            case rel => exact ⟨k + 1, by omega, by go_num, L2⟩
            case measure => simp [intOf]; omega
          · have h3b : (q0 == 3) = false := by simpa using h3
            obtain ⟨v, e0, hdc⟩ := both_dec N k w _ b c q1 T0 hN2 (by omega)
            have HO := Lib.hid o0
            have HG := Lib.hid hg
            have hvv : (v != v) = false := by simp
            have hee : (e0 != e0) = false := by simp
            clear T0 h5 h3 o0 hg
            go_wp2_with fail
            refine hdc.mono ?_
            rintro e x1 ⟨rfl, hK1, hss⟩
            have k1 : x1.cell? ⟨wr.heap.size, 1, none⟩ = some (.int .i64 q1) := by
              have o2 : Blk x1 g 36 #[.int .i64 q0, .int .i64 q1, .int .i64 q2, .slice sd dl md] := (hK1.block g HO.out.lt F0.out.2).trans HO.out
              have := o2.cell 1
              rw [HG.out] at this
              exact this
            clear hdc hK1
            go_wp2_with fail
            refine hss.mono ?_
            rintro e x2 ⟨rfl, _, hL2⟩
            have L2 := Lib.hid hL2
            clear hL2 hss k1
            go_wp2_with fail
            go_roundw
            case rel => exact ⟨k + 1, by omega, by go_num, L2⟩
            case measure => simp [intOf]; omega
      · obtain rfl : k = l.length := by omega
        have HB := Lib.hid hT.out.below
        go_wp2_with fail
        refine (awake11_c _).mono ?_
        rintro e w5 ⟨rfl, hb5⟩
        go_wp2_with fail
        go_ret
        exact ⟨rfl, below_call HB.out hb5⟩
  · go_enter Tryd.func5, Tryd.ntmps5
    go_wp2_with (first | (go_at_call 18; (with_reducible refine hfw.mono ?_); rintro e wn ⟨rfl, rfl⟩))
    refine (dnew_n n _ hn).mono ?_
    rintro e W1 ⟨rfl, hB1⟩
    clear hfw
    go_wp2_with fail
    refine (snew_n n _ hn).mono ?_
    rintro e wn ⟨rfl, rfl⟩
    have hI := Lib.hid hB1
    clear hB1 hn
    go_wp2_with fail
    go_loopw [41] (fun i wr => ∃ k : Nat, k ≤ l.length ∧ i = .int .i64 (k : Int) ∧ Hid (Below w.heap.size w wr)) (fun i _ => l.length - (intOf i).toNat)
    case atStart => exact ⟨0, Nat.zero_le _, rfl, hI⟩
    case round =>
      obtain ⟨k, hk, rfl, hT⟩ := hrel
      by_cases hlt : k < l.length
      · obtain ⟨bo, off, rfl, c0, c1, c2, sd, md, c3, _⟩ := ((H.out).below hT.out).at hlt
        obtain ⟨q, hq⟩ : ∃ q, q = l[k] := ⟨_, rfl⟩
        rw [← hq] at c0 c1 c2 c3
        clear hq
        obtain ⟨q0, q1, q2, D⟩ := q
        dsimp only at c0 c1 c2 c3
        obtain ⟨dl, hdle⟩ : ∃ dl, dl = D.length := ⟨_, rfl⟩
        rw [← hdle] at c3
        clear hdle
        have B0 : Hid (Below w.heap.size w (wr.alloc (.cells #[.int .i64 q0, .int .i64 q1, .int .i64 q2, .slice sd dl md] 36))) := below_alloc hT.out _
        by_cases h5 : q0 = 5
        · subst h5
          obtain ⟨g, hg⟩ : ∃ g, g = wr.heap.size := ⟨_, rfl⟩
          have o0 : Blk (wr.alloc (.cells #[.int .i64 5, .int .i64 q1, .int .i64 q2, .slice sd dl md] 36)) g 36 #[.int .i64 5, .int .i64 q1, .int .i64 q2, .slice sd dl md] := by rw [hg]; exact Blk.new wr _ _
          have K0 : (wr.alloc (.cells #[.int .i64 5, .int .i64 q1, .int .i64 q2, .slice sd dl md] 36)).drew.cell? ⟨g, 3, none⟩ = some (.slice sd dl md) := o0.drew.cell 3
          have hns := fun W => nstart none sd dl md W (.inl rfl)
          have HG := Lib.hid hg
          clear o0
          go_upto_region 16 with fail
          rw [← HG.out]
          clear c0 c1 c2 c3 hg
          go_cut [79] (fun s79 wx => s79 = .bool false ∧ Hid (Below w.heap.size w wx))
          case first =>
            go_region_held3 (fun w' => w'.cell? ⟨g, 3, none⟩ = some (.slice sd dl md))
              (first | (with_reducible exact K0) | fail)
              (first | (go_at_call 34; (with_reducible refine (hns _).mono ?_); rintro e wn ⟨rfl, rfl⟩) | (go_at_call 35; (with_reducible refine (snone_start sd dl md _).mono ?_); rintro e wn ⟨rfl, rfl⟩) | fail)
            all_goals
              go_wp2_with fail
              go_meet
              exact ⟨rfl, B0.out.drew⟩
          case rest =>
            obtain ⟨rfl, L2⟩ := hcut
            go_wp2_with fail
            go_roundw
            case rel => exact ⟨k + 1, by omega, by go_num, L2⟩
            case measure => simp [intOf]; omega
        · have h5b : (q0 == 5) = false := by simpa using h5
          by_cases h3 : q0 = 3
          · subst h3
            clear h5 h5b
            go_wp2_with fail
            refine (ndreset none _ (.inl rfl)).mono ?_
            rintro e wn ⟨rfl, rfl⟩
            go_wp2_with fail
            refine (snone_reset _).mono ?_
            rintro e wn ⟨rfl, rfl⟩
            go_wp2_with fail
            go_roundw
            case rel => exact ⟨k + 1, by omega, by go_num, B0⟩
            case measure => simp [intOf]; omega
          · have h3b : (q0 == 3) = false := by simpa using h3
            clear h5 h3
            go_wp2_with fail
            refine (ndec none q1 _ (.inl rfl)).mono ?_
            rintro e wn ⟨rfl, rfl⟩
            go_wp2_with fail
            refine (snone_dec q1 _).mono ?_
            rintro e wn ⟨rfl, rfl⟩
            go_wp2_with fail
            go_roundw
            case rel => exact ⟨k + 1, by omega, by go_num, B0⟩
            case measure => simp [intOf]; omega
      · obtain rfl : k = l.length := by omega
        go_wp2_with fail
        refine (awake11_c _).mono ?_
        rintro e w5 ⟨rfl, hb5⟩
        go_wp2_with fail
        go_ret
        exact ⟨rfl, below_call hT.out hb5⟩

set_option maxRecDepth 100000 in
theorem lifted (os : Os) (started : os.Started) (H : Type) (enc : TypeId × Value → H) :
    ReturnsInHanded {} Tryd.checked os 5 .any (fun w args => (Rows.arithDecodesSpec.pre enc Tryd.prog Tryd.f5 Rows.arithDecodesRow.domain false w args ∧ laidMetH Tryd.prog Rows.arithDecodesRow.laid w) ∧ sizedMet enc Tryd.prog Tryd.f5 (OpenSpec.ofChange Rows.arithDecodesSpec) false w args)
      (Rows.arithDecodesSpec.post enc Tryd.prog Tryd.f5 false true false false) := by
  refine returnsInHanded_of_change_and (C := Tryd.checked) (X := fun w _ => laidMetH Tryd.prog Rows.arithDecodesRow.laid w) (fun _ _ _ hh h => h.of_heap hh) own started (by kernel_rfl) Tryd.func5
    (ChangeSpec.witness_shaped (enc := enc) (C := Tryd.checked) (os := os) (X := fun w _ => laidMetH Tryd.prog Rows.arithDecodesRow.laid w) false (World.laidAll Tryd.prog os Rows.arithDecodesRow.laid) #[.int .i64 0, .slice none 0 0] 8 (World.laidAll_os _ _ _)
      (World.shaped_of_ZipB (by kernel_rfl) (by kernel_rfl)) (by kernel_rfl) (by kernel_rfl) (by kernel_rfl)
      (by rw [MakeChecks.laidMetH_plain _ _ _ (by kernel_rfl)]; exact laidMet_laidAll _ (by kernel_rfl) (by kernel_rfl))) ?_
  intro W base args ds gs before hval0 hW _ _ _ _
  have hval : ∀ (j : Nat) t v, Tryd.f5.params[j]? = some t → args[j]? = some v → Value.okWide Tryd.prog W .any base t v := hval0
  have hW' := hW
  obtain ⟨p, q, hA0, hV, rfl, _, _⟩ := hW
  have hA : DataW.TrodAll enc Tryd.prog W 0 (fun _ => true) true Tryd.f5.params.toList args.toList ds p := hA0
  rw [Tryd.params5] at hA hval
  obtain ⟨v0, vs0, d0, ds0, p0, q0, hargs, rfl, rfl, h0, r0⟩ := trodAll_cons hA
  obtain ⟨v1, vs1, d1, ds1, p1, q1, rfl, rfl, rfl, h1, r1⟩ := trodAll_cons r0
  obtain ⟨rfl, rfl, rfl⟩ := trodAll_nil r1
  obtain rfl : args = #[v0, v1] := by cases args; simp_all
  obtain ⟨rfl, rfl⟩ := trodVars_none hV
  clear hA0 hval0
  simp only [List.append_nil] at hW'
  have l0 : ∀ x ∈ p0, x.block < W.heap.size := fun x hx => hW'.lt x (by simp [hx])
  have l1 : ∀ x ∈ p1, x.block < W.heap.size := fun x hx => hW'.lt x (by simp [hx])
  obtain ⟨i0, rfl, _, _, wi0⟩ := open_int Tryd.underlying3 (hval 0 3 v0 rfl rfl) h0
  obtain ⟨s1, b1, m1, rfl, hB1⟩ := open_calls11 (hval 1 25 v1 rfl rfl) h1
  refine (walk i0 b1 s1 m1 W hB1).mono fun e W' ⟨he, hb⟩ => ?_
  subst he
  exact ⟨_, rfl, post_low (pa := p0 ++ (p1 ++ ([]))) (pv := []) hW' (fun _ _ _ => (trodAll_cons_mk (shut_bool Tryd.underlying4 _) trodAll_mk0)) (fun sp hsp => (trodAll_cons_mk (trod_low laidOut (by kernel_rfl) (of_decide_eq_true (by kernel_rfl)) h0 hb l0 (fun x hx => hsp x (by simp [hx]))) (trodAll_cons_mk (trod_low laidOut (by kernel_rfl) (of_decide_eq_true (by kernel_rfl)) h1 hb l1 (fun x hx => hsp x (by simp [hx]))) trodAll_mk0))) (fun _ _ => rfl) (by simp) hb (ok_one (by kernel_rfl) rfl (okWide_bool_mk Tryd.underlying4 _))⟩

theorem over : Rows.arithDecodesRow.holds Tryd.pinned (OpenSpec.ofChange Rows.arithDecodesSpec) :=
  OpenClaim.holds_of_wide 5 Tryd.f5 rfl rfl rfl rfl rfl rfl rfl ⟨rfl, rfl, rfl, rfl, rfl⟩ rfl rfl rfl rfl rfl (by kernel_rfl) Tryd.func5 (by kernel_rfl)
    (of_decide_eq_true (by kernel_rfl)) (by unfold Func.isWrapper; first | (rw [if_pos (by decide +kernel)]; kernel_rfl) | (rw [if_neg (by decide +kernel)]; exact ⟨rfl, rfl⟩))
    (fun os started H enc _ => lifted os started H enc)
theorem proved : Rows.ArithDecodesCardSaid :=
  Claim7.holds_tied_plain_at .later [] [.data, .pinned] true Rows.arithDecodesCard.stood.harness false over (fun _ h => by cases h) (by kernel_rfl) (fun _ h => by cases h) arithDecodes_row_tie rfl ⟨rfl, rfl⟩ (by kernel_rfl) rfl
    (fun f fn hf hfn => by
      obtain rfl : f = 5 := Option.some.inj ((show Tryd.prog.funcNamed Rows.arithDecodesRow.func = some 5 by kernel_rfl).symm.trans hf) |>.symm
      obtain rfl : fn = Tryd.f5 := (Option.some.inj (Tryd.func5.symm.trans hfn)).symm
      exact ⟨by kernel_rfl, fun j t ht => by
        rw [Tryd.params5] at ht
        have hm : t ∈ [3, 25] := by simpa using Array.mem_of_getElem? ht
        have hall : ([3, 25].all fun u => !Tryd.prog.wantsStandIn u) = true := by kernel_rfl
        exact (show Tryd.prog.wantsStandIn t = false by simpa using List.all_eq_true.1 hall t hm)⟩)
    (by kernel_rfl)
#print axioms proved
end Go.Proofs.YtbaappodeicomaaDoor.arithDecodes
