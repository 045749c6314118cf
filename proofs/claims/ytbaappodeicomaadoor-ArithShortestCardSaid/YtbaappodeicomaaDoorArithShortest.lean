/-
  For all symbols and bytes the statement ArithShortest returns true: no shorter string is decoded to the same bits, and a codeword does not end with a zero byte; the arguments read afterwards as before.
  Conditions: none beyond those of the given statement (the listed variables are tied by the card).
-/
import Derived.Test.YtbaappodeicomaaDoorLf
import Derived.Test.YtbaappodeicomaaDoorFrameP
import Derived.Test.YtbaappodeicomaaDoorTie
import Derived.Test.YtbaappodeicomaaDoorCards
import Derived.LaidMore
import Derived.Lay
import Derived.SevenTiedAt
import Derived.Stop.Joined
set_option maxRecDepth 100000
namespace Go.Proofs.YtbaappodeicomaaDoor.arithShortest
open Go.ChangeShapes Go.WideShapes Go.ChangeAt Go.RowKit Go.Joins Go.Deep

set_option maxHeartbeats 4000000 in
theorem walk (l : List (Int × Int)) (s : Option Addr) (m : Nat) (ob : List Int) (so : Option Addr) (mo : Nat) (w : World) (h : HoldsP w s l) (hO : HoldsB w so ob) (hY : Am.bytes ob) (hmo : ob.length ≤ mo) (hn0 : so = none → ob = [] ∧ mo = 0) :
    Calls Tryd.prog 8 #[.slice s l.length m, .slice so ob.length mo] w fun e w' => e = .returned (.bool true) ∧ Below w.heap.size w w' := by
  have hb1 := bits11_c l s m 20 w h
  cases hq1 : symsB l 20 with
  | false =>
    rw [hq1] at hb1
    clear hq1
    go_enter Tryd.func8, Tryd.ntmps8
    go_wp2_with (first | (go_at_call 40; (with_reducible refine hb1.mono ?_); rintro e wn ⟨rfl, rfl⟩))
    refine (awake11_c _).mono ?_
    rintro e w2 ⟨rfl, hb2⟩
    go_wp2_with fail
    go_ret
    exact ⟨rfl, hb2⟩
  | true =>
  rw [hq1] at hb1
  obtain ⟨⟨hl, _, _⟩, hp⟩ := (symsB_iff l 20).1 hq1
  by_cases h5 : 2000 < ob.length
  · have h6 : (2000 : Int) < (ob.length : Int) := by omega
    clear hq1 hp
    go_enter Tryd.func8, Tryd.ntmps8
    go_wp2_with (first | (go_at_call 40; (with_reducible refine hb1.mono ?_); rintro e wn ⟨rfl, rfl⟩))
    refine (awake11_c _).mono ?_
    rintro e w2 ⟨rfl, hb2⟩
    go_wp2_with fail
    go_ret
    exact ⟨rfl, hb2⟩
  have hob : ob.length ≤ 2000 := by omega
  have HS := Lib.hid (symsP_sym (n := 20) hp)
  have H := Lib.hid h
  have HO := Lib.hid hO
  have HYO := Lib.hid hY
  have HNO := Lib.hid hn0
  clear hq1 hp h hO hY hn0 h5
  go_enter Tryd.func8, Tryd.ntmps8
  go_wp2_with (first | (go_at_call 40; (with_reducible refine hb1.mono ?_); rintro e wn ⟨rfl, rfl⟩))
  refine (enew_y 20 _ (by decide) (by decide)).mono ?_
  rintro e W1 ⟨a, rfl, hE1, hB1⟩
  clear hb1
  go_wp2_with fail
  refine (dnew_y 20 _ (by decide) (by decide)).mono ?_
  rintro e W2 ⟨b, rfl, hD2, hB2⟩
  have HE : Hid (Ec W2 w.heap.size a (x0 20)) := hE1.below hB2
  have HD : Hid (Dk0 W2 w.heap.size b (List.replicate 20 2048)) := hD2.any.lower hB1.size
  have HJ : Hid (Dj W2 a b) := Dj.new hB2 hE1.fl (fun k hk => (hD2.fp k hk).1)
  have HB : Hid (Below w.heap.size w W2) := below_call hB1 hB2
  clear hE1 hB1 hD2 hB2
  have hlen : (List.replicate 20 (2048 : Int)).length = 20 := List.length_replicate
  have HX : Hid (Am.OkX (List.replicate 20 2048, Am.St.init)) := x0_ok 20
  have hR1 := Lib.hid (Am.restores HX.out hlen HS.out)
  have hSh : Hid (∀ e : List Int, Am.bytes e → e.length < (Am.cw (Am.run (List.replicate 20 2048, Am.St.init) l).2).length → Am.dc (List.replicate 20 2048, Am.St.init) (Am.fixd e) l < l.length) := fun e he hle => Am.shortest HX.out hlen HS.out he hle
  have hw1 := cw_small HX.out hlen HS.out hl
  have hla := Lib.hid (cw_last (s := (Am.run (List.replicate 20 2048, Am.St.init) l).2))
  have he1 := encoded_c w W2 a 20 (List.replicate 20 2048, Am.St.init) l s m HE.out HB.out H.out HX.out hlen (by decide) HS.out (Nat.zero_le _) hl
  unfold EncDone at he1
  have hd1 : Hid (∀ W u p D, Dk0 W w.heap.size b (List.replicate 20 2048) → Below w.heap.size w W → HoldsB W u D → (u = none → D = [] ∧ p = 0) → Am.bytes D → D.length ≤ 3000 → Calls Tryd.prog 42 #[.pointer (some ⟨b, 0, none⟩), .slice s l.length m, .slice u D.length p] W (DecDone w b (List.replicate 20 2048) D l W)) :=
    fun W u p D hD hB hH hn hY hDl => decoded_c w W b 20 _ _ l s u m p hD hB H.out HX.out hlen (by decide) HS.out hl hH hn hY (by omega)
  unfold DecDone at hd1
  generalize hg1 : Am.cw (Am.run (List.replicate 20 2048, Am.St.init) l).2 = D1 at he1 hw1 hR1 hSh hla
  clear hg1
  go_wp2_with fail
  refine he1.mono ?_
  rintro e W3 ⟨sl, ml, ss, p, rfl, hH, hm, hq, hN, hE⟩
  have HH := Lib.hid hH
  have HK3 := Lib.hid (HD.out.kp HJ.out hE.kp)
  have HB3 := Lib.hid hE.out
  clear he1 hH hq hN hE
  by_cases hz : D1.length = 0
  · obtain rfl : D1 = [] := List.length_eq_zero_iff.1 hz
    have hd := hd1.out W3 none 0 [] HK3.out.1 HB3.out (.inl rfl) (fun _ => ⟨rfl, rfl⟩) Am.bytes_nil (by simp)
    rw [hR1.out] at hd
    clear hz
    go_wp2_with fail
    refine hd.mono ?_
    rintro e W5 ⟨rfl, _, _, hB5⟩
    go_wp2_with fail
    refine (awake11_c _).mono ?_
    rintro e w7 ⟨rfl, hb7⟩
    go_wp2_with fail
    go_ret
    exact ⟨rfl, below_call hB5 hb7⟩
  obtain ⟨L, hL⟩ : ∃ L, D1.length = L + 1 := ⟨D1.length - 1, by omega⟩
  obtain ⟨g, off, rfl, hc⟩ := HH.out.at (k := L) (by omega)
  have hlast := hla.out (by omega)
  rw [hL, Nat.add_sub_cancel] at hlast
  obtain ⟨x, hx⟩ : ∃ x, x = D1.getD L 0 := ⟨_, rfl⟩
  rw [← hx] at hc hlast
  have hxz : (x == 0) = false := by simpa using hlast
  have hSh2 : Hid (∀ e : List Int, Am.bytes e → e.length ≤ L → Am.dc (List.replicate 20 2048, Am.St.init) (Am.fixd e) l < l.length) := fun e he hle => hSh.out e he (by omega)
  rw [hL] at hm hw1 ⊢
  clear hla hlast hx hz hSh hR1
  by_cases hcase : ob.length ≤ L
  · have hd := hd1.out W3 so mo ob HK3.out.1 HB3.out (HO.out.below HB3.out (Nat.le_refl _)) HNO.out HYO.out (by omega)
    have hlt := hSh2.out ob HYO.out hcase
    generalize Am.dc (List.replicate 20 2048, Am.St.init) (Am.fixd ob) l = r at hd hlt
    have HN : so = none ∨ ∃ p, so = some p := by cases so with | none => exact .inl rfl | some p => exact .inr ⟨p, rfl⟩
    rcases HN with rfl | ⟨po, rfl⟩
    · obtain ⟨rfl, rfl⟩ := HNO.out rfl
      go_wp2_with fail
      refine hd.mono ?_
      rintro e W5 ⟨rfl, _, _, hB5⟩
      go_wp2_with fail
      refine (awake11_c _).mono ?_
      rintro e w7 ⟨rfl, hb7⟩
      go_wp2_with fail
      go_ret
      exact ⟨rfl, below_call hB5 hb7⟩
    · go_wp2_with fail
      refine hd.mono ?_
      rintro e W5 ⟨rfl, _, _, hB5⟩
      go_wp2_with fail
      refine (awake11_c _).mono ?_
      rintro e w7 ⟨rfl, hb7⟩
      go_wp2_with fail
      go_ret
      exact ⟨rfl, below_call hB5 hb7⟩
  · have hLt : L < ob.length := by omega
    obtain ⟨po, rfl⟩ : ∃ p, so = some p := by
      cases so with
      | some p => exact ⟨p, rfl⟩
      | none => obtain ⟨e, _⟩ := HNO.out rfl; subst e; simp at hLt
    have hTl : (ob.take L).length = L := by simp; omega
    have hd := hd1.out W3 (some po) mo (ob.take L) HK3.out.1 HB3.out ((HO.out.below HB3.out (Nat.le_refl _)).take L) (fun e => by simp at e) (Am.bytes_take HYO.out L) (by omega)
    have hlt := hSh2.out (ob.take L) (Am.bytes_take HYO.out L) (by omega)
    rw [hTl] at hd
    generalize Am.dc (List.replicate 20 2048, Am.St.init) (Am.fixd (ob.take L)) l = r at hd hlt
    go_wp2_with fail
    refine hd.mono ?_
    rintro e W5 ⟨rfl, _, _, hB5⟩
    go_wp2_with fail
    refine (awake11_c _).mono ?_
    rintro e w7 ⟨rfl, hb7⟩
    go_wp2_with fail
    go_ret
    exact ⟨rfl, below_call hB5 hb7⟩

set_option maxRecDepth 100000 in
theorem lifted (os : Os) (started : os.Started) (H : Type) (enc : TypeId × Value → H) :
    ReturnsInHanded {} Tryd.checked os 8 .any (fun w args => (Rows.arithShortestSpec.pre enc Tryd.prog Tryd.f8 Rows.arithShortestRow.domain false w args ∧ laidMetH Tryd.prog Rows.arithShortestRow.laid w) ∧ sizedMet enc Tryd.prog Tryd.f8 (OpenSpec.ofChange Rows.arithShortestSpec) false w args)
      (Rows.arithShortestSpec.post enc Tryd.prog Tryd.f8 false true false false) := by
  refine returnsInHanded_of_change_and (C := Tryd.checked) (X := fun w _ => laidMetH Tryd.prog Rows.arithShortestRow.laid w) (fun _ _ _ hh h => h.of_heap hh) own started (by kernel_rfl) Tryd.func8
    (ChangeSpec.witness_shaped (enc := enc) (C := Tryd.checked) (os := os) (X := fun w _ => laidMetH Tryd.prog Rows.arithShortestRow.laid w) false (World.laidAll Tryd.prog os Rows.arithShortestRow.laid) #[.slice none 0 0, .slice none 0 0] 8 (World.laidAll_os _ _ _)
      (World.shaped_of_ZipB (by kernel_rfl) (by kernel_rfl)) (by kernel_rfl) (by kernel_rfl) (by kernel_rfl)
      (by rw [MakeChecks.laidMetH_plain _ _ _ (by kernel_rfl)]; exact laidMet_laidAll _ (by kernel_rfl) (by kernel_rfl))) ?_
  intro W base args ds gs before hval0 hW _ _ _ _
  have hval : ∀ (j : Nat) t v, Tryd.f8.params[j]? = some t → args[j]? = some v → Value.okWide Tryd.prog W .any base t v := hval0
  have hW' := hW
  obtain ⟨p, q, hA0, hV, rfl, _, _⟩ := hW
  have hA : DataW.TrodAll enc Tryd.prog W 0 (fun _ => true) true Tryd.f8.params.toList args.toList ds p := hA0
  rw [Tryd.params8] at hA hval
  obtain ⟨v0, vs0, d0, ds0, p0, q0, hargs, rfl, rfl, h0, r0⟩ := trodAll_cons hA
  obtain ⟨v1, vs1, d1, ds1, p1, q1, rfl, rfl, rfl, h1, r1⟩ := trodAll_cons r0
  obtain ⟨rfl, rfl, rfl⟩ := trodAll_nil r1
  obtain rfl : args = #[v0, v1] := by cases args; simp_all
  obtain ⟨rfl, rfl⟩ := trodVars_none hV
  clear hA0 hval0
  simp only [List.append_nil] at hW'
  have l0 : ∀ x ∈ p0, x.block < W.heap.size := fun x hx => hW'.lt x (by simp [hx])
  have l1 : ∀ x ∈ p1, x.block < W.heap.size := fun x hx => hW'.lt x (by simp [hx])
  obtain ⟨s0, b0, m0, rfl, hB0, hm0, _, hn0⟩ := open_syms (hval 0 52 v0 rfl rfl) h0
  obtain ⟨s1, b1, m1, rfl, hB1, hY1, hm1, _, hn1⟩ := open_bytes (hval 1 34 v1 rfl rfl) h1
  refine (walk b0 s0 m0 b1 s1 m1 W hB0 hB1 hY1 hm1 hn1).mono fun e W' ⟨he, hb⟩ => ?_
  subst he
  exact ⟨_, rfl, post_low (pa := p0 ++ (p1 ++ ([]))) (pv := []) hW' (fun _ _ _ => (trodAll_cons_mk (shut_bool Tryd.underlying4 _) trodAll_mk0)) (fun sp hsp => (trodAll_cons_mk (trod_low laidOut (by kernel_rfl) (of_decide_eq_true (by kernel_rfl)) h0 hb l0 (fun x hx => hsp x (by simp [hx]))) (trodAll_cons_mk (trod_low laidOut (by kernel_rfl) (of_decide_eq_true (by kernel_rfl)) h1 hb l1 (fun x hx => hsp x (by simp [hx]))) trodAll_mk0))) (fun _ _ => rfl) (by simp) hb (ok_one (by kernel_rfl) rfl (okWide_bool_mk Tryd.underlying4 _))⟩

theorem over : Rows.arithShortestRow.holds Tryd.pinned (OpenSpec.ofChange Rows.arithShortestSpec) :=
  OpenClaim.holds_of_wide 8 Tryd.f8 rfl rfl rfl rfl rfl rfl rfl ⟨rfl, rfl, rfl, rfl, rfl⟩ rfl rfl rfl rfl rfl (by kernel_rfl) Tryd.func8 (by kernel_rfl)
    (of_decide_eq_true (by kernel_rfl)) (by unfold Func.isWrapper; first | (rw [if_pos (by decide +kernel)]; kernel_rfl) | (rw [if_neg (by decide +kernel)]; exact ⟨rfl, rfl⟩))
    (fun os started H enc _ => lifted os started H enc)
theorem proved : Rows.ArithShortestCardSaid :=
  Claim7.holds_tied_plain_at .later [] [.data, .pinned] true Rows.arithShortestCard.stood.harness false over (fun _ h => by cases h) (by kernel_rfl) (fun _ h => by cases h) arithShortest_row_tie rfl ⟨rfl, rfl⟩ (by kernel_rfl) rfl
    (fun f fn hf hfn => by
      obtain rfl : f = 8 := Option.some.inj ((show Tryd.prog.funcNamed Rows.arithShortestRow.func = some 8 by kernel_rfl).symm.trans hf) |>.symm
      obtain rfl : fn = Tryd.f8 := (Option.some.inj (Tryd.func8.symm.trans hfn)).symm
      exact ⟨by kernel_rfl, fun j t ht => by
        rw [Tryd.params8] at ht
        have hm : t ∈ [52, 34] := by simpa using Array.mem_of_getElem? ht
        have hall : ([52, 34].all fun u => !Tryd.prog.wantsStandIn u) = true := by kernel_rfl
        exact (show Tryd.prog.wantsStandIn t = false by simpa using List.all_eq_true.1 hall t hm)⟩)
    (by kernel_rfl)
#print axioms proved
end Go.Proofs.YtbaappodeicomaaDoor.arithShortest
