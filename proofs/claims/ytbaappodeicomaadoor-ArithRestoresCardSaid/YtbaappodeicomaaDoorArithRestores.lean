/-
  For all integers and symbols the statement ArithRestores returns true: a decoder decodes both codewords; the arguments read afterwards as before.
  Conditions: none beyond those of the given statement (the listed variables are tied by the card).
-/
import Derived.Test.YtbaappodeicomaaDoorLf
import Derived.Test.YtbaappodeicomaaDoorFrameI
import Derived.Test.YtbaappodeicomaaDoorTie
import Derived.Test.YtbaappodeicomaaDoorCards
import Derived.LaidMore
import Derived.Lay
import Derived.SevenTiedAt
import Derived.Stop.Joined
set_option maxRecDepth 100000
namespace Go.Proofs.YtbaappodeicomaaDoor.arithRestores
open Go.ChangeShapes Go.WideShapes Go.ChangeAt Go.RowKit Go.Joins Go.Deep

set_option maxHeartbeats 4000000 in
theorem walk (n : Int) (l1 : List (Int × Int)) (s1 : Option Addr) (m1 : Nat) (l2 : List (Int × Int)) (s2 : Option Addr) (m2 : Nat) (w : World) (h1 : HoldsP w s1 l1) (h2 : HoldsP w s2 l2) :
    Calls Tryd.prog 6 #[.int .i64 n, .slice s1 l1.length m1, .slice s2 l2.length m2] w fun e w' => e = .returned (.bool true) ∧ Below w.heap.size w w' := by
  have hb1 := bits11_c l1 s1 m1 n w h1
  have hb2 := bits11_c l2 s2 m2 n w h2
  cases hq1 : symsB l1 n with
  | false =>
    rw [hq1] at hb1
    clear hq1
    go_enter Tryd.func6, Tryd.ntmps6
    go_wp2_with (first | (go_at_call 40; (with_reducible refine hb1.mono ?_); rintro e wn ⟨rfl, rfl⟩) | (go_at_call 40; (with_reducible refine hb2.mono ?_); rintro e wn ⟨rfl, rfl⟩))
    refine (awake11_c _).mono ?_
    rintro e w2 ⟨rfl, hb2⟩
    go_wp2_with fail
    go_ret
    exact ⟨rfl, hb2⟩
  | true =>
  cases hq2 : symsB l2 n with
  | false =>
    rw [hq1] at hb1
    rw [hq2] at hb2
    clear hq1 hq2
    go_enter Tryd.func6, Tryd.ntmps6
    go_wp2_with (first | (go_at_call 40; (with_reducible refine hb1.mono ?_); rintro e wn ⟨rfl, rfl⟩) | (go_at_call 40; (with_reducible refine hb2.mono ?_); rintro e wn ⟨rfl, rfl⟩))
    refine (awake11_c _).mono ?_
    rintro e w2 ⟨rfl, hb2⟩
    go_wp2_with fail
    go_ret
    exact ⟨rfl, hb2⟩
  | true =>
  rw [hq1] at hb1
  rw [hq2] at hb2
  obtain ⟨⟨hl1, hN1, hN2⟩, hp1⟩ := (symsB_iff l1 n).1 hq1
  obtain ⟨⟨hl2, _, _⟩, hp2⟩ := (symsB_iff l2 n).1 hq2
  obtain ⟨N, rfl⟩ : ∃ N : Nat, n = N := ⟨n.toNat, by omega⟩
  have hM1 : 1 ≤ N := by omega
  have hM2 : N ≤ 64 := by omega
  have HS1 := Lib.hid (symsP_sym hp1)
  have HS2 := Lib.hid (symsP_sym hp2)
  have H1 := Lib.hid h1
  have H2 := Lib.hid h2
  clear hq1 hq2 hp1 hp2 h1 h2 hN1 hN2
  go_enter Tryd.func6, Tryd.ntmps6
  go_wp2_with (first | (go_at_call 40; (with_reducible refine hb1.mono ?_); rintro e wn ⟨rfl, rfl⟩) | (go_at_call 40; (with_reducible refine hb2.mono ?_); rintro e wn ⟨rfl, rfl⟩))
  refine (enew_y N _ hM1 hM2).mono ?_
  rintro e W1 ⟨a, rfl, hE1, hB1⟩
  clear hb1 hb2
  go_wp2_with fail
  refine (dnew_y N _ hM1 hM2).mono ?_
  rintro e W2 ⟨b, rfl, hD2, hB2⟩
  have HE : Hid (Ec W2 w.heap.size a (x0 N)) := hE1.below hB2
  have HD : Hid (Dk0 W2 w.heap.size b (List.replicate N 2048)) := hD2.any.lower hB1.size
  have HJ : Hid (Dj W2 a b) := Dj.new hB2 hE1.fl (fun k hk => (hD2.fp k hk).1)
  have HB : Hid (Below w.heap.size w W2) := below_call hB1 hB2
  clear hE1 hB1 hD2 hB2
  have hlen : (List.replicate N (2048 : Int)).length = N := List.length_replicate
  have HX : Hid (Am.OkX (List.replicate N 2048, Am.St.init)) := x0_ok N
  have A1 := Lib.hid (after_ok HX.out hlen HS1.out)
  have hR1 := Am.restores HX.out hlen HS1.out
  have hR2 := Am.restores A1.out.1 A1.out.2 HS2.out
  have hw1 := cw_small HX.out hlen HS1.out hl1
  have hw2 := cw_small A1.out.1 A1.out.2 HS2.out hl2
  have HY1 := Lib.hid (Am.cw_bytes (Am.run (List.replicate N 2048, Am.St.init) l1).2)
  have HY2 := Lib.hid (Am.cw_bytes (Am.run ((Am.run (List.replicate N 2048, Am.St.init) l1).1, Am.St.init) l2).2)
  have he1 := encoded_c w W2 a N (List.replicate N 2048, Am.St.init) l1 s1 m1 HE.out HB.out H1.out HX.out hlen hM2 HS1.out (Nat.zero_le _) hl1
  unfold EncDone at he1
  have he2 : Hid (∀ W, Ec W w.heap.size a ((Am.run (List.replicate N 2048, Am.St.init) l1).1, Am.St.init) → Below w.heap.size w W → Calls Tryd.prog 41 #[.pointer (some ⟨a, 0, none⟩), .slice s2 l2.length m2] W (EncDone w a ((Am.run (List.replicate N 2048, Am.St.init) l1).1, Am.St.init) l2 W)) :=
    fun W hE hB => encoded_c w W a N _ l2 s2 m2 hE hB H2.out A1.out.1 A1.out.2 hM2 HS2.out (Nat.zero_le _) hl2
  unfold EncDone at he2
  have hd1 : Hid (∀ W u p, Dk0 W w.heap.size b (List.replicate N 2048) → Below w.heap.size w W → HoldsB W u (Am.cw (Am.run (List.replicate N 2048, Am.St.init) l1).2) → (u = none → Am.cw (Am.run (List.replicate N 2048, Am.St.init) l1).2 = [] ∧ p = 0) → Calls Tryd.prog 42 #[.pointer (some ⟨b, 0, none⟩), .slice s1 l1.length m1, .slice u (Am.cw (Am.run (List.replicate N 2048, Am.St.init) l1).2).length p] W (DecDone w b (List.replicate N 2048) (Am.cw (Am.run (List.replicate N 2048, Am.St.init) l1).2) l1 W)) :=
    fun W u p hD hB hH hn => decoded_c w W b N _ _ l1 s1 u m1 p hD hB H1.out HX.out hlen hM2 HS1.out hl1 hH hn HY1.out (by omega)
  have hd2 : Hid (∀ W u p, Dk0 W w.heap.size b (Am.run (List.replicate N 2048, Am.St.init) l1).1 → Below w.heap.size w W → HoldsB W u (Am.cw (Am.run ((Am.run (List.replicate N 2048, Am.St.init) l1).1, Am.St.init) l2).2) → (u = none → Am.cw (Am.run ((Am.run (List.replicate N 2048, Am.St.init) l1).1, Am.St.init) l2).2 = [] ∧ p = 0) → Calls Tryd.prog 42 #[.pointer (some ⟨b, 0, none⟩), .slice s2 l2.length m2, .slice u (Am.cw (Am.run ((Am.run (List.replicate N 2048, Am.St.init) l1).1, Am.St.init) l2).2).length p] W (DecDone w b (Am.run (List.replicate N 2048, Am.St.init) l1).1 (Am.cw (Am.run ((Am.run (List.replicate N 2048, Am.St.init) l1).1, Am.St.init) l2).2) l2 W)) :=
    fun W u p hD hB hH hn => decoded_c w W b N _ _ l2 s2 u m2 p hD hB H2.out A1.out.1 A1.out.2 hM2 HS2.out hl2 hH hn HY2.out (by omega)
  unfold DecDone at hd1 hd2
  rw [hR1] at hd1
  rw [hR2] at hd2
  clear hR1 hR2 hw1 hw2
  generalize hgx : (Am.run (List.replicate N 2048, Am.St.init) l1).1 = Q at he1 he2 hd1 hd2
  generalize hg1 : Am.cw (Am.run (List.replicate N 2048, Am.St.init) l1).2 = D1 at he1 hd1
  generalize hg2 : Am.cw (Am.run (Q, Am.St.init) l2).2 = D2 at he2 hd2
  clear hgx hg1 hg2 A1 HY1 HY2
  go_wp2_with fail
  refine he1.mono ?_
  rintro e W3 ⟨sl, ml, ss, p, rfl, hH, hm, hq, hn0, hE⟩
  have HH := Lib.hid hH
  have HQ := Lib.hid hq
  have HN0 := Lib.hid hn0
  have HE3 := Lib.hid hE
  have HK3 := Lib.hid (HD.out.kp HJ.out hE.kp)
  clear he1 hH hm hq hn0 hE
  go_wp2_with fail
  refine (he2.out W3 HE3.out.ec HE3.out.out).mono ?_
  rintro e W4 ⟨sl2, ml2, ss2, p2, rfl, hH2, hm2, hq2, hn2, hE2⟩
  have HH4 : Hid (HoldsB W4 sl D1) := holdsB_kp HH.out hE2.kp fun p hp => ⟨(HQ.out p hp).2.1, (HQ.out p hp).2.2.1⟩
  have HK4 := Lib.hid (HK3.out.1.kp HK3.out.2 hE2.kp)
  have HF2 : Hid (∀ p, sl2 = some p → (∃ ds, Blk W4 p.block 5 ds) ∧ ¬ Fp W4 b p.block) := fun p hp => ⟨(hq2 p hp).2.1, cw_far HK3.out.2 HK3.out.1.fl hE2.kp (hq2 p hp).2.2.2⟩
  have HH2 := Lib.hid hH2
  have HN2 := Lib.hid hn2
  have HB4 := Lib.hid hE2.out
  clear he2 hH2 hm2 hq2 hn2 hE2
  go_wp2_with fail
  refine (hd1.out W4 sl ml HK4.out.1 HB4.out HH4.out HN0.out).mono ?_
  rintro e W5 ⟨rfl, ⟨P', hP, hPe⟩, hK5, hB5⟩
  obtain rfl := hPe trivial
  have HP := Lib.hid hP
  have HB5 := Lib.hid hB5
  have HH5 : Hid (HoldsB W5 sl2 D2) := holdsB_kp HH2.out hK5 HF2.out
  clear hd1 hP hPe hK5 hB5
  go_wp2_with fail
  refine (hd2.out W5 sl2 ml2 HP.out HB5.out HH5.out HN2.out).mono ?_
  rintro e W6 ⟨rfl, _, _, hB6⟩
  go_wp2_with fail
  refine (awake11_c _).mono ?_
  rintro e w7 ⟨rfl, hb7⟩
  go_wp2_with fail
  go_ret
  exact ⟨rfl, below_call hB6 hb7⟩

set_option maxRecDepth 100000 in
theorem lifted (os : Os) (started : os.Started) (H : Type) (enc : TypeId × Value → H) :
    ReturnsInHanded {} Tryd.checked os 6 .any (fun w args => (Rows.arithRestoresSpec.pre enc Tryd.prog Tryd.f6 Rows.arithRestoresRow.domain false w args ∧ laidMetH Tryd.prog Rows.arithRestoresRow.laid w) ∧ sizedMet enc Tryd.prog Tryd.f6 (OpenSpec.ofChange Rows.arithRestoresSpec) false w args)
      (Rows.arithRestoresSpec.post enc Tryd.prog Tryd.f6 false true false false) := by
  refine returnsInHanded_of_change_and (C := Tryd.checked) (X := fun w _ => laidMetH Tryd.prog Rows.arithRestoresRow.laid w) (fun _ _ _ hh h => h.of_heap hh) own started (by kernel_rfl) Tryd.func6
    (ChangeSpec.witness_shaped (enc := enc) (C := Tryd.checked) (os := os) (X := fun w _ => laidMetH Tryd.prog Rows.arithRestoresRow.laid w) false (World.laidAll Tryd.prog os Rows.arithRestoresRow.laid) #[.int .i64 0, .slice none 0 0, .slice none 0 0] 8 (World.laidAll_os _ _ _)
      (World.shaped_of_ZipB (by kernel_rfl) (by kernel_rfl)) (by kernel_rfl) (by kernel_rfl) (by kernel_rfl)
      (by rw [MakeChecks.laidMetH_plain _ _ _ (by kernel_rfl)]; exact laidMet_laidAll _ (by kernel_rfl) (by kernel_rfl))) ?_
  intro W base args ds gs before hval0 hW _ _ _ _
  have hval : ∀ (j : Nat) t v, Tryd.f6.params[j]? = some t → args[j]? = some v → Value.okWide Tryd.prog W .any base t v := hval0
  have hW' := hW
  obtain ⟨p, q, hA0, hV, rfl, _, _⟩ := hW
  have hA : DataW.TrodAll enc Tryd.prog W 0 (fun _ => true) true Tryd.f6.params.toList args.toList ds p := hA0
  rw [Tryd.params6] at hA hval
  obtain ⟨v0, vs0, d0, ds0, p0, q0, hargs, rfl, rfl, h0, r0⟩ := trodAll_cons hA
  obtain ⟨v1, vs1, d1, ds1, p1, q1, rfl, rfl, rfl, h1, r1⟩ := trodAll_cons r0
  obtain ⟨v2, vs2, d2, ds2, p2, q2, rfl, rfl, rfl, h2, r2⟩ := trodAll_cons r1
  obtain ⟨rfl, rfl, rfl⟩ := trodAll_nil r2
  obtain rfl : args = #[v0, v1, v2] := by cases args; simp_all
  obtain ⟨rfl, rfl⟩ := trodVars_none hV
  clear hA0 hval0
  simp only [List.append_nil] at hW'
  have l0 : ∀ x ∈ p0, x.block < W.heap.size := fun x hx => hW'.lt x (by simp [hx])
  have l1 : ∀ x ∈ p1, x.block < W.heap.size := fun x hx => hW'.lt x (by simp [hx])
  have l2 : ∀ x ∈ p2, x.block < W.heap.size := fun x hx => hW'.lt x (by simp [hx])
  obtain ⟨i0, rfl, _, _, wi0⟩ := open_int Tryd.underlying3 (hval 0 3 v0 rfl rfl) h0
  obtain ⟨s1, b1, m1, rfl, hB1, hm1, _, hn1⟩ := open_syms (hval 1 52 v1 rfl rfl) h1
  obtain ⟨s2, b2, m2, rfl, hB2, hm2, _, hn2⟩ := open_syms (hval 2 52 v2 rfl rfl) h2
  refine (walk i0 b1 s1 m1 b2 s2 m2 W hB1 hB2).mono fun e W' ⟨he, hb⟩ => ?_
  subst he
  exact ⟨_, rfl, post_low (pa := p0 ++ (p1 ++ (p2 ++ ([])))) (pv := []) hW' (fun _ _ _ => (trodAll_cons_mk (shut_bool Tryd.underlying4 _) trodAll_mk0)) (fun sp hsp => (trodAll_cons_mk (trod_low laidOut (by kernel_rfl) (of_decide_eq_true (by kernel_rfl)) h0 hb l0 (fun x hx => hsp x (by simp [hx]))) (trodAll_cons_mk (trod_low laidOut (by kernel_rfl) (of_decide_eq_true (by kernel_rfl)) h1 hb l1 (fun x hx => hsp x (by simp [hx]))) (trodAll_cons_mk (trod_low laidOut (by kernel_rfl) (of_decide_eq_true (by kernel_rfl)) h2 hb l2 (fun x hx => hsp x (by simp [hx]))) trodAll_mk0)))) (fun _ _ => rfl) (by simp) hb (ok_one (by kernel_rfl) rfl (okWide_bool_mk Tryd.underlying4 _))⟩

theorem over : Rows.arithRestoresRow.holds Tryd.pinned (OpenSpec.ofChange Rows.arithRestoresSpec) :=
  OpenClaim.holds_of_wide 6 Tryd.f6 rfl rfl rfl rfl rfl rfl rfl ⟨rfl, rfl, rfl, rfl, rfl⟩ rfl rfl rfl rfl rfl (by kernel_rfl) Tryd.func6 (by kernel_rfl)
    (of_decide_eq_true (by kernel_rfl)) (by unfold Func.isWrapper; first | (rw [if_pos (by decide +kernel)]; kernel_rfl) | (rw [if_neg (by decide +kernel)]; exact ⟨rfl, rfl⟩))
    (fun os started H enc _ => lifted os started H enc)
theorem proved : Rows.ArithRestoresCardSaid :=
  Claim7.holds_tied_plain_at .later [] [.data, .pinned] true Rows.arithRestoresCard.stood.harness false over (fun _ h => by cases h) (by kernel_rfl) (fun _ h => by cases h) arithRestores_row_tie rfl ⟨rfl, rfl⟩ (by kernel_rfl) rfl
    (fun f fn hf hfn => by
      obtain rfl : f = 6 := Option.some.inj ((show Tryd.prog.funcNamed Rows.arithRestoresRow.func = some 6 by kernel_rfl).symm.trans hf) |>.symm
      obtain rfl : fn = Tryd.f6 := (Option.some.inj (Tryd.func6.symm.trans hfn)).symm
      exact ⟨by kernel_rfl, fun j t ht => by
        rw [Tryd.params6] at ht
        have hm : t ∈ [3, 52, 52] := by simpa using Array.mem_of_getElem? ht
        have hall : ([3, 52, 52].all fun u => !Tryd.prog.wantsStandIn u) = true := by kernel_rfl
        exact (show Tryd.prog.wantsStandIn t = false by simpa using List.all_eq_true.1 hall t hm)⟩)
    (by kernel_rfl)
#print axioms proved
end Go.Proofs.YtbaappodeicomaaDoor.arithRestores
