/-
  For all integers and symbols the statement ArithResets returns true: after Reset the codewords are those of a new encoder; the arguments read afterwards as before.
  Conditions: none beyond those of the given statement (the listed variables are tied by the card).
-/
import Derived.Test.YtbaappodeicomaaDoorLf
import Derived.Test.YtbaappodeicomaaDoorFrameI
import Derived.Test.YtbaappodeicomaaDoorTie
import Derived.Test.YtbaappodeicomaaDoorCards
import Derived.LaidMore
import Derived.Lay
import Derived.SevenTiedAt
import Derived.Stop.Joined
set_option maxRecDepth 100000
namespace Go.Proofs.YtbaappodeicomaaDoor.arithResets
open Go.ChangeShapes Go.WideShapes Go.ChangeAt Go.RowKit Go.Joins Go.Deep

set_option maxHeartbeats 4000000 in
theorem walk (n : Int) (l1 : List (Int × Int)) (s1 : Option Addr) (m1 : Nat) (l2 : List (Int × Int)) (s2 : Option Addr) (m2 : Nat) (w : World) (h1 : HoldsP w s1 l1) (h2 : HoldsP w s2 l2) :
    Calls Tryd.prog 9 #[.int .i64 n, .slice s1 l1.length m1, .slice s2 l2.length m2] w fun e w' => e = .returned (.bool true) ∧ Below w.heap.size w w' := by
  have hb1 := bits11_c l1 s1 m1 n w h1
  have hb2 := bits11_c l2 s2 m2 n w h2
  cases hq1 : symsB l1 n with
  | false =>
    rw [hq1] at hb1
    clear hq1
    go_enter Tryd.func9, Tryd.ntmps9
    go_wp2_with (first | (go_at_call 40; (with_reducible refine hb1.mono ?_); rintro e wn ⟨rfl, rfl⟩) | (go_at_call 40; (with_reducible refine hb2.mono ?_); rintro e wn ⟨rfl, rfl⟩))
    refine (awake11_c _).mono ?_
    rintro e w2 ⟨rfl, hb2⟩
    go_wp2_with fail
    go_ret
    exact ⟨rfl, hb2⟩
  | true =>
  cases hq2 : symsB l2 n with
  | false =>
    rw [hq1] at hb1
    rw [hq2] at hb2
    clear hq1 hq2
    go_enter Tryd.func9, Tryd.ntmps9
    go_wp2_with (first | (go_at_call 40; (with_reducible refine hb1.mono ?_); rintro e wn ⟨rfl, rfl⟩) | (go_at_call 40; (with_reducible refine hb2.mono ?_); rintro e wn ⟨rfl, rfl⟩))
    refine (awake11_c _).mono ?_
    rintro e w2 ⟨rfl, hb2⟩
    go_wp2_with fail
    go_ret
    exact ⟨rfl, hb2⟩
  | true =>
  rw [hq1] at hb1
  rw [hq2] at hb2
  obtain ⟨⟨hl1, hN1, hN2⟩, hp1⟩ := (symsB_iff l1 n).1 hq1
  obtain ⟨⟨hl2, _, _⟩, hp2⟩ := (symsB_iff l2 n).1 hq2
  obtain ⟨N, rfl⟩ : ∃ N : Nat, n = N := ⟨n.toNat, by omega⟩
  have hM1 : 1 ≤ N := by omega
  have hM2 : N ≤ 64 := by omega
  have HS1 := Lib.hid (symsP_sym hp1)
  have HS2 := Lib.hid (symsP_sym hp2)
  have H1 := Lib.hid h1
  have H2 := Lib.hid h2
  clear hq1 hq2 hp1 hp2 h1 h2 hN1 hN2
  go_enter Tryd.func9, Tryd.ntmps9
  go_wp2_with (first | (go_at_call 40; (with_reducible refine hb1.mono ?_); rintro e wn ⟨rfl, rfl⟩) | (go_at_call 40; (with_reducible refine hb2.mono ?_); rintro e wn ⟨rfl, rfl⟩))
  refine (enew_y N _ hM1 hM2).mono ?_
  rintro e W1 ⟨a, rfl, hE1, hB1⟩
  clear hb1 hb2
  go_wp2_with fail
  refine (enew_y N _ hM1 hM2).mono ?_
  rintro e W2 ⟨b, rfl, hD2, hB2⟩
  have HE : Hid (Ec W2 w.heap.size a (x0 N)) := hE1.below hB2
  have HD : Hid (Ec W2 w.heap.size b (x0 N)) := hD2.lower hB1.size
  have HJ : Hid (Dj W2 a b) := Dj.new hB2 hE1.fl (fun k hk => (hD2.fp k hk).1)
  have HB : Hid (Below w.heap.size w W2) := below_call hB1 hB2
  clear hE1 hB1 hD2 hB2
  have hlen : (List.replicate N (2048 : Int)).length = N := List.length_replicate
  have HX : Hid (Am.OkX (List.replicate N 2048, Am.St.init)) := x0_ok N
  have A1 := Lib.hid (after_ok HX.out hlen HS1.out)
  have hw2 := cw_small HX.out hlen HS2.out hl2
  have he1 := encoded_c w W2 a N (List.replicate N 2048, Am.St.init) l1 s1 m1 HE.out HB.out H1.out HX.out hlen hM2 HS1.out (Nat.zero_le _) hl1
  unfold EncDone at he1
  have he2 : Hid (∀ c W, Ec W w.heap.size c (List.replicate N 2048, Am.St.init) → Below w.heap.size w W → Calls Tryd.prog 41 #[.pointer (some ⟨c, 0, none⟩), .slice s2 l2.length m2] W (EncDone w c (List.replicate N 2048, Am.St.init) l2 W)) :=
    fun c W hE hB => encoded_c w W c N _ l2 s2 m2 hE hB H2.out HX.out hlen hM2 HS2.out (Nat.zero_le _) hl2
  unfold EncDone at he2
  have hzl := zsN_len (List.replicate N 2048, Am.St.init) l2 l2.length
  have hrs : Hid (∀ W, Ec W w.heap.size a ((Am.run (List.replicate N 2048, Am.St.init) l1).1, Am.St.init) → Calls Tryd.prog 24 #[.pointer (some ⟨a, 0, none⟩)] W fun e w' => e = .returned (.tuple #[]) ∧ Ec w' w.heap.size a (List.replicate N 2048, Am.St.init) ∧ Kp a W w') := fun W hE => by
    have := ereset_c W _ a _ hE (by rw [A1.out.2]; exact hM1) (by rw [A1.out.2]; exact hM2)
    rw [A1.out.2] at this
    exact this
  generalize hgx : (Am.run (List.replicate N 2048, Am.St.init) l1).1 = Q at he1 hrs
  generalize hg2 : Am.cw (Am.run (List.replicate N 2048, Am.St.init) l2).2 = D2 at he2 hw2
  generalize hgz : zsN (List.replicate N 2048, Am.St.init) l2 l2.length = Z at he2 hzl
  clear hgx hg2 hgz A1
  go_wp2_with fail
  refine he1.mono ?_
  rintro e W3 ⟨sl, ml, ss, p, rfl, hH, hm, hq, hn0, hE⟩
  have HE3 := Lib.hid hE
  have HK3 := Lib.hid (HD.out.kp HJ.out hE.kp)
  clear he1 hH hm hq hn0 hE
  go_wp2_with fail
  refine (hrs.out W3 HE3.out.ec).mono ?_
  rintro e W4 ⟨rfl, hE4, hK4⟩
  have HE4 := Lib.hid hE4
  have HK4 := Lib.hid (HK3.out.1.kp HK3.out.2 hK4)
  have HB4 := Lib.hid (HE3.out.out.trans (HE3.out.ec.out hK4))
  clear hE4 hK4
  go_wp2_with fail
  refine (he2.out a W4 HE4.out HB4.out).mono ?_
  rintro e W5 ⟨sl1, ml1, ss1, p1, rfl, hH1, _, hq1, hn1, hE5⟩
  have HH1 := Lib.hid hH1
  have HQ1 : Hid (∀ p, sl1 = some p → (∃ ds, Blk W5 p.block 5 ds) ∧ ¬ Fp W5 b p.block) := fun p hp => ⟨(hq1 p hp).2.1, cw_far HK4.out.2 HK4.out.1.fl hE5.kp (hq1 p hp).2.2.2⟩
  have HE5 := Lib.hid hE5
  have HK5 := Lib.hid (HK4.out.1.kp HK4.out.2 hE5.kp)
  have HR5 : Hid (∀ k, (Value.slice ss1 l2.length p1).ownBlock = some k → ¬ Fp W5 b k) := fun k hk => cw_far HK4.out.2 HK4.out.1.fl hE5.kp (.inr (own_foot hE5.row hk).1)
  clear hH1 hq1 hn1 hE5
  go_wp2_with fail
  refine (he2.out b W5 HK5.out.1 HE5.out.out).mono ?_
  rintro e W6 ⟨sl2, ml2, ss2, p2, rfl, hH2, _, _, _, hE6⟩
  have HH6 : Hid (HoldsB W6 sl1 D2) := holdsB_kp HH1.out hE6.kp HQ1.out
  have HH2 := Lib.hid hH2
  have hr1 := own_keep HE5.out.row (w1 := W6) (fun k hk => hE6.kp.block k (HE5.out.lt hk) (HR5.out k hk))
  have hr2 := hE6.row
  rw [hzl] at hr1 hr2
  have HB6 := Lib.hid hE6.out
  have R1 := Lib.hid hr1
  have R2 := Lib.hid hr2
  clear hH2 hE6 hr1 hr2
  go_wp2_with fail
  go_loopw [67] (fun i wr => ∃ k : Nat, k ≤ l2.length ∧ i = .int .i64 (k : Int) ∧ Below W6.heap.size W6 wr) (fun i _ => l2.length - (intOf i).toNat)
  case atStart => exact ⟨0, Nat.zero_le _, rfl, Below.refl _ _⟩
  case round =>
    obtain ⟨k, hk, rfl, hW⟩ := hrel
    by_cases hlt : k < l2.length
    · obtain ⟨g1, rfl, c1, _⟩ := own_at R1.out k hlt
      obtain ⟨g2, rfl, c2, _⟩ := own_at R2.out k hlt
      rw [List.getElem?_map, List.getElem?_eq_getElem (by omega)] at c1 c2
      obtain ⟨z, hz⟩ : ∃ z, z = Z[k]'(by omega) := ⟨_, rfl⟩
      rw [← hz] at c1 c2
      have d1 : wr.cell? ⟨g1, k, none⟩ = some (.int .i64 z) := (hW.cell (p := ⟨g1, k, none⟩) (cell_lt c1)).trans c1
      have d2 : wr.cell? ⟨g2, k, none⟩ = some (.int .i64 z) := (hW.cell (p := ⟨g2, k, none⟩) (cell_lt c2)).trans c2
      have hzz : (z != z) = false := by simp
      clear hz c1 c2
      go_wp2_with fail
      go_quiet (fail)
      go_wp2_with fail
      go_roundw
      case rel => exact ⟨k + 1, by omega, by go_num, hW.trans ((drewN_below wr nq).mono hW.size)⟩
      case measure => simp [intOf]; omega
    · obtain rfl : k = l2.length := by omega
      go_wp2_with fail
      refine (same11_t _ D2 _ _ _ _ _ rfl (HH6.out.call hW) (HH2.out.call hW) (by omega)).mono ?_
      rintro e w7 ⟨rfl, hb7⟩
      go_wp2_with fail
      refine (awake11_c _).mono ?_
      rintro e w8 ⟨rfl, hb8⟩
      go_wp2_with fail
      go_ret
      exact ⟨rfl, below_call (below_call (below_call HB6.out hW) hb7) hb8⟩

set_option maxRecDepth 100000 in
theorem lifted (os : Os) (started : os.Started) (H : Type) (enc : TypeId × Value → H) :
    ReturnsInHanded {} Tryd.checked os 9 .any (fun w args => (Rows.arithResetsSpec.pre enc Tryd.prog Tryd.f9 Rows.arithResetsRow.domain false w args ∧ laidMetH Tryd.prog Rows.arithResetsRow.laid w) ∧ sizedMet enc Tryd.prog Tryd.f9 (OpenSpec.ofChange Rows.arithResetsSpec) false w args)
      (Rows.arithResetsSpec.post enc Tryd.prog Tryd.f9 false true false false) := by
  refine returnsInHanded_of_change_and (C := Tryd.checked) (X := fun w _ => laidMetH Tryd.prog Rows.arithResetsRow.laid w) (fun _ _ _ hh h => h.of_heap hh) own started (by kernel_rfl) Tryd.func9
    (ChangeSpec.witness_shaped (enc := enc) (C := Tryd.checked) (os := os) (X := fun w _ => laidMetH Tryd.prog Rows.arithResetsRow.laid w) false (World.laidAll Tryd.prog os Rows.arithResetsRow.laid) #[.int .i64 0, .slice none 0 0, .slice none 0 0] 8 (World.laidAll_os _ _ _)
      (World.shaped_of_ZipB (by kernel_rfl) (by kernel_rfl)) (by kernel_rfl) (by kernel_rfl) (by kernel_rfl)
      (by rw [MakeChecks.laidMetH_plain _ _ _ (by kernel_rfl)]; exact laidMet_laidAll _ (by kernel_rfl) (by kernel_rfl))) ?_
  intro W base args ds gs before hval0 hW _ _ _ _
  have hval : ∀ (j : Nat) t v, Tryd.f9.params[j]? = some t → args[j]? = some v → Value.okWide Tryd.prog W .any base t v := hval0
  have hW' := hW
  obtain ⟨p, q, hA0, hV, rfl, _, _⟩ := hW
  have hA : DataW.TrodAll enc Tryd.prog W 0 (fun _ => true) true Tryd.f9.params.toList args.toList ds p := hA0
  rw [Tryd.params9] at hA hval
  obtain ⟨v0, vs0, d0, ds0, p0, q0, hargs, rfl, rfl, h0, r0⟩ := trodAll_cons hA
  obtain ⟨v1, vs1, d1, ds1, p1, q1, rfl, rfl, rfl, h1, r1⟩ := trodAll_cons r0
  obtain ⟨v2, vs2, d2, ds2, p2, q2, rfl, rfl, rfl, h2, r2⟩ := trodAll_cons r1
  obtain ⟨rfl, rfl, rfl⟩ := trodAll_nil r2
  obtain rfl : args = #[v0, v1, v2] := by cases args; simp_all
  obtain ⟨rfl, rfl⟩ := trodVars_none hV
  clear hA0 hval0
  simp only [List.append_nil] at hW'
  have l0 : ∀ x ∈ p0, x.block < W.heap.size := fun x hx => hW'.lt x (by simp [hx])
  have l1 : ∀ x ∈ p1, x.block < W.heap.size := fun x hx => hW'.lt x (by simp [hx])
  have l2 : ∀ x ∈ p2, x.block < W.heap.size := fun x hx => hW'.lt x (by simp [hx])
  obtain ⟨i0, rfl, _, _, wi0⟩ := open_int Tryd.underlying3 (hval 0 3 v0 rfl rfl) h0
  obtain ⟨s1, b1, m1, rfl, hB1, hm1, _, hn1⟩ := open_syms (hval 1 52 v1 rfl rfl) h1
  obtain ⟨s2, b2, m2, rfl, hB2, hm2, _, hn2⟩ := open_syms (hval 2 52 v2 rfl rfl) h2
  refine (walk i0 b1 s1 m1 b2 s2 m2 W hB1 hB2).mono fun e W' ⟨he, hb⟩ => ?_
  subst he
  exact ⟨_, rfl, post_low (pa := p0 ++ (p1 ++ (p2 ++ ([])))) (pv := []) hW' (fun _ _ _ => (trodAll_cons_mk (shut_bool Tryd.underlying4 _) trodAll_mk0)) (fun sp hsp => (trodAll_cons_mk (trod_low laidOut (by kernel_rfl) (of_decide_eq_true (by kernel_rfl)) h0 hb l0 (fun x hx => hsp x (by simp [hx]))) (trodAll_cons_mk (trod_low laidOut (by kernel_rfl) (of_decide_eq_true (by kernel_rfl)) h1 hb l1 (fun x hx => hsp x (by simp [hx]))) (trodAll_cons_mk (trod_low laidOut (by kernel_rfl) (of_decide_eq_true (by kernel_rfl)) h2 hb l2 (fun x hx => hsp x (by simp [hx]))) trodAll_mk0)))) (fun _ _ => rfl) (by simp) hb (ok_one (by kernel_rfl) rfl (okWide_bool_mk Tryd.underlying4 _))⟩

theorem over : Rows.arithResetsRow.holds Tryd.pinned (OpenSpec.ofChange Rows.arithResetsSpec) :=
  OpenClaim.holds_of_wide 9 Tryd.f9 rfl rfl rfl rfl rfl rfl rfl ⟨rfl, rfl, rfl, rfl, rfl⟩ rfl rfl rfl rfl rfl (by kernel_rfl) Tryd.func9 (by kernel_rfl)
    (of_decide_eq_true (by kernel_rfl)) (by unfold Func.isWrapper; first | (rw [if_pos (by decide +kernel)]; kernel_rfl) | (rw [if_neg (by decide +kernel)]; exact ⟨rfl, rfl⟩))
    (fun os started H enc _ => lifted os started H enc)
theorem proved : Rows.ArithResetsCardSaid :=
  Claim7.holds_tied_plain_at .later [] [.data, .pinned] true Rows.arithResetsCard.stood.harness false over (fun _ h => by cases h) (by kernel_rfl) (fun _ h => by cases h) arithResets_row_tie rfl ⟨rfl, rfl⟩ (by kernel_rfl) rfl
    (fun f fn hf hfn => by
      obtain rfl : f = 9 := Option.some.inj ((show Tryd.prog.funcNamed Rows.arithResetsRow.func = some 9 by kernel_rfl).symm.trans hf) |>.symm
      obtain rfl : fn = Tryd.f9 := (Option.some.inj (Tryd.func9.symm.trans hfn)).symm
      exact ⟨by kernel_rfl, fun j t ht => by
        rw [Tryd.params9] at ht
        have hm : t ∈ [3, 52, 52] := by simpa using Array.mem_of_getElem? ht
        have hall : ([3, 52, 52].all fun u => !Tryd.prog.wantsStandIn u) = true := by kernel_rfl
        exact (show Tryd.prog.wantsStandIn t = false by simpa using List.all_eq_true.1 hall t hm)⟩)
    (by kernel_rfl)
#print axioms proved
end Go.Proofs.YtbaappodeicomaaDoor.arithResets
