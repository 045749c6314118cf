/-
  For every list of calls the statement RawbitsWrites returns true: the code's writer answers as the reference's does; the list reads afterwards as before.
  Conditions: none beyond those of the given statement (the listed variables are tied by the card).
-/
import Derived.Test.YtbaappodeicomaaDoorTa
import Derived.Test.YtbaappodeicomaaDoorTv2
import Derived.Test.YtbaappodeicomaaDoorFrameP
import Derived.Test.YtbaappodeicomaaDoorTie
import Derived.Test.YtbaappodeicomaaDoorCards
import Derived.LaidMore
import Derived.Lay
import Derived.SevenTiedAt
import Derived.Stop.Joined
set_option maxRecDepth 100000
namespace Go.Proofs.YtbaappodeicomaaDoor.rawbitsWrites
open Go.ChangeShapes Go.WideShapes Go.ChangeAt Go.RowKit Go.Joins Go.Deep

theorem rw_notop {w : World} {B a g : Nat} {t : TypeId} {l : List Int} {es : Array Value} (h : Rw w B a l) (hg : Blk w g t es) (h1 : t ≠ 89) (h2 : 5 ≠ t) : ¬ Fp w a g := by
  obtain ⟨sv, h⟩ := h
  refine h.core.notop hg h1 fun i v k hv hk => ?_
  by_cases hi : i = 0
  · subst hi
    obtain rfl : sv = v := by simpa using hv
    obtain ⟨_, ds, h1⟩ := own_foot h.own hk
    exact ⟨_, ds, h1, h2⟩
  · rw [rest3 rfl rfl i v hi hv] at hk; simp at hk
theorem vw_notop {w : World} {B a g : Nat} {t : TypeId} {l : List Int} {es : Array Value} (h : Vw w B a l) (hg : Blk w g t es) (h1 : t ≠ 112) (h2 : 3 ≠ t) : ¬ Fp w a g := by
  obtain ⟨sv, h⟩ := h
  refine h.core.notop hg h1 fun i v k hv hk => ?_
  by_cases hi : i = 1
  · subst hi
    obtain rfl : sv = v := by simpa using hv
    obtain ⟨_, ds, h1⟩ := own_foot h.own hk
    exact ⟨_, ds, h1, h2⟩
  · rw [rest2 rfl i v hi hv] at hk; simp at hk
theorem holdsB_far {w w1 : World} {s : Option Addr} {bs : List Int} (h : HoldsB w s bs) (hs : ∀ p, s = some p → w1.heap[p.block]? = w.heap[p.block]?) : HoldsB w1 s bs := by
  rcases h with h | ⟨b, off, rfl, hr⟩
  · exact .inl h
  · exact .inr ⟨b, off, rfl, fun k hk => (World.cell?_of_block (w := w) (a := ⟨b, off + k, none⟩) (hs ⟨b, off, none⟩ rfl)).trans (hr k hk)⟩
theorem op2 {w : World} {g : Nat} {x y : Int} (h : Blk w g 75 #[.int .i64 x, .int .i64 y]) : w.cell? ⟨g, 0, none⟩ = some (.int .i64 x) ∧ w.cell? ⟨g, 1, none⟩ = some (.int .i64 y) := ⟨h.cell 0, h.cell 1⟩
structure Two (w : World) (a b n : Nat) (l : List Int) (W : World) : Prop where
  rw : Rw W w.heap.size a l
  vw : Vw W w.heap.size b l
  dj : Dj W a b
  below : Below w.heap.size w W
  bits : Pk.bits l
  len : l.length ≤ n
theorem Two.step {w W W1 : World} {a b n : Nat} {l : List Int} (h : Two w a b n l W) (hb : Below W.heap.size W W1) : Two w a b n l W1 := ⟨h.rw.below hb, h.vw.below hb, h.dj.below hb h.rw.lt h.vw.lt, below_call h.below hb, h.bits, h.len⟩
theorem Two.mk2 {w W W1 W2 : World} {a b n : Nat} {l l' : List Int} (h : Two w a b n l W) (hr : Rw W1 w.heap.size a l') (hk : Kp a W W1) (hv : Vw W2 w.heap.size b l') (hk2 : Kp b W1 W2) (hb : Pk.bits l') (hl : l'.length ≤ n + 1) : Two w a b (n + 1) l' W2 := by
  obtain ⟨h1, h2⟩ := h.vw.kp h.dj hk
  obtain ⟨h3, h4⟩ := hr.kp h2.symm hk2
  exact ⟨h3, hv, h4.symm, (h.below.trans (h.rw.out hk)).trans (h1.out hk2), hb, hl⟩
set_option maxHeartbeats 4000000 in
theorem walk (l : List (Int × Int)) (s : Option Addr) (m : Nat) (w : World) (hO : HoldsP w s l) :
    Calls Tryd.prog 11 #[.slice s l.length m] w fun e w' => e = .returned (.bool true) ∧ Below w.heap.size w w' := by
  by_cases h5 : 2000 < l.length
  · have h6 : (2000 : Int) < (l.length : Int) := by omega
    go_enter Tryd.func11, Tryd.ntmps11
    go_wp2_with fail
    refine (awake12_c _).mono ?_
    rintro e w2 ⟨rfl, hb2⟩
    go_wp2_with fail
    go_ret
    exact ⟨rfl, hb2⟩
  have hl : l.length ≤ 2000 := by omega
  have HO := Lib.hid hO
  clear hO h5
  go_enter Tryd.func11, Tryd.ntmps11
  go_wp2_with fail
  refine (wnew_c _).mono ?_
  rintro e w2 ⟨a, rfl, hW2, hb2⟩
  go_wp2_with fail
  refine (vwnew_c _).mono ?_
  rintro e w3 ⟨b, rfl, hV3, hb3⟩
  have hI : Hid (Two w a b 0 [] w3) := ⟨hW2.below hb3, hV3.lower hb2.size, Dj.new hb3 hW2.fl (fun k hk => (hV3.fp k hk).1), below_call hb2 hb3, Pk.bits_nil, Nat.le_refl _⟩
  clear hW2 hb2 hV3 hb3
  go_wp2_with fail
  go_loopw [15] (fun i wr => ∃ (k : Nat) (L : List Int), k ≤ l.length ∧ i = .int .i64 (k : Int) ∧ Hid (Two w a b k L wr)) (fun i _ => l.length - (intOf i).toNat)
  case atStart => exact ⟨0, [], Nat.zero_le _, rfl, hI⟩
  case round =>
    obtain ⟨k, L, hk, rfl, hT⟩ := hrel
    by_cases hlt : k < l.length
    · obtain ⟨bo, off, rfl, hr⟩ := (HO.out.call hT.out.below).at hlt
      obtain ⟨c0, c1⟩ := hr
      obtain ⟨q, hq⟩ : ∃ q, q = l[k] := ⟨_, rfl⟩
      obtain ⟨q0, q1⟩ := q
      rw [← hq] at c0 c1
      clear hq
      obtain ⟨g, hg⟩ : ∃ g, g = wr.heap.size := ⟨_, rfl⟩
      have o0 : Blk (wr.alloc (.cells #[.int .i64 q0, .int .i64 q1] 75)) g 75 #[.int .i64 q0, .int .i64 q1] := by rw [hg]; exact Blk.new wr _ _
      have T0 : Two w a b k L (wr.alloc (.cells #[.int .i64 q0, .int .i64 q1] 75)) := hT.out.step ((Below.refl _ _).alloc (Nat.le_refl _) _)
      have hLl := T0.len
      by_cases h1 : q0 = 1
      · subst h1
        have hw0 := wterm_c _ _ a L T0.rw (by omega)
        have HT0 := Lib.hid T0
        have HG := Lib.hid hg
        clear T0 hg o0
        go_wp2_with fail
        refine hw0.mono ?_
        rintro e x1 ⟨s1, m1, rfl, hH1, _, hA1, _, hR1, hK1⟩
        obtain ⟨hV1, hD1⟩ := HT0.out.vw.kp HT0.out.dj hK1
        clear hw0
        go_wp2_with fail
        refine (vwterm_c _ _ b L hV1 HT0.out.bits (by omega)).mono ?_
        rintro e x2 ⟨s2, m2, rfl, hH2, hV2, hK2⟩
        have T2 := Two.mk2 HT0.out hR1 hK1 hV2 hK2 Pk.bits_nil (by simp)
        have hH1' : HoldsB x2 s1 (Pk.seg L) := holdsB_far hH1 fun p hp => by
          obtain ⟨_, ds, h1⟩ := hA1 p hp
          exact hK2.block _ h1.lt (vw_notop hV1 h1 (by decide) (by decide))
        have hsl : (Pk.seg L).length ≤ 1000000000 := by have := Pk.seg_len L; unfold Pk.nb at this; omega
        clear hH1 hV1 hD1 hR1 hK1 hV2 hK2 hA1
        go_wp2_with fail
        refine (same12_t _ (Pk.seg L) _ _ _ _ _ rfl hH1' hH2 hsl).mono ?_
        rintro e x3 ⟨rfl, hb3⟩
        have T3 := Lib.hid (T2.step hb3)
        clear T2 hb3 hH1' hH2 hsl
        go_wp2_with (first | (go_at_call 51; (with_reducible refine (wsize_c _ _ a _ T3.out.rw (by simp)).mono ?_); rintro e wn ⟨rfl, rfl⟩) | (go_at_call 52; (with_reducible refine (vwsize_c _ _ b _ T3.out.vw (by simp)).mono ?_); rintro e wn ⟨rfl, rfl⟩))
        go_roundw
        case rel => exact ⟨k + 1, _, by omega, by go_num, T3⟩
        case measure => simp [intOf]; omega
      · have h1b : (q0 == 1) = false := by simpa using h1
        replace T0 := T0.step (Below.refl _ _).drew
        replace o0 := o0.drew
        have hpb := putL_bits T0.bits q1
        have hpl := putL_len L q1
        have hw0 := put_c _ _ a L q1 T0.rw T0.bits (by omega)
        have hv0 := fun (x : World) (h : Vw x w.heap.size b L) => vwput_c x _ b L q1 h (by omega)
        have HT0 := Lib.hid T0
        have HO0 := Lib.hid o0
        have HP : Hid (Pk.bits (putL L q1) ∧ (putL L q1).length ≤ k + 1) := ⟨hpb, by omega⟩
        clear T0 h1 hpb hpl
        generalize putL L q1 = L1 at *
        generalize putE q1 = E at *
        have hE : (E != E) = false := by simp
        have K0 := op2 HO0.out
        have HG := Lib.hid hg
        go_upto_region 10 with fail
        rw [← hg]
        clear c0 c1 hg
        go_cut [36] (fun s36 wx => s36 = .bool false ∧ Hid (Two w a b (k + 1) L1 wx))
        case first =>
          go_region_held3 (fun w' => w'.cell? ⟨g, 0, none⟩ = some (.int .i64 q0) ∧ w'.cell? ⟨g, 1, none⟩ = some (.int .i64 q1))
            (first | (with_reducible exact K0) | (with_reducible exact K1) | (with_reducible exact K2) | fail)
            (first | (go_at_call 49; (with_reducible refine hw0.mono ?_); rintro e x1 ⟨rfl, hR1, hK1⟩; have o1 := HO0.out.kp hK1 (rw_notop HT0.out.rw HO0.out (by decide) (by decide)); have K1 := op2 o1; obtain ⟨hV1, hD1⟩ := HT0.out.vw.kp HT0.out.dj hK1) | (go_at_call 50; (with_reducible refine (hv0 _ hV1).mono ?_); rintro e x2 ⟨rfl, hV2, hK2⟩; have T2 := Lib.hid (Two.mk2 HT0.out hR1 hK1 hV2 hK2 HP.out.1 HP.out.2); have K2 := op2 (o1.kp hK2 (vw_notop hV1 o1 (by decide) (by decide)))) | fail)
          all_goals
            go_wp2_with fail
            go_meet
            exact ⟨rfl, T2⟩
        case rest =>
          obtain ⟨rfl, T2⟩ := hcut
          have hL1 := T2.out.len
          go_wp2_with (first | (go_at_call 51; (with_reducible refine (wsize_c _ _ a _ T2.out.rw (by omega)).mono ?_); rintro e wn ⟨rfl, rfl⟩) | (go_at_call 52; (with_reducible refine (vwsize_c _ _ b _ T2.out.vw (by omega)).mono ?_); rintro e wn ⟨rfl, rfl⟩))
          go_roundw
          case rel => exact ⟨k + 1, _, by omega, by go_num, T2⟩
          case measure => simp [intOf]; omega
    · obtain rfl : k = l.length := by omega
      have hLl := hT.out.len
      have hw0 := wterm_c _ _ a L hT.out.rw (by omega)
      go_wp2_with fail
      refine hw0.mono ?_
      rintro e x1 ⟨s1, m1, rfl, hH1, _, hA1, _, hR1, hK1⟩
      obtain ⟨hV1, hD1⟩ := hT.out.vw.kp hT.out.dj hK1
      clear hw0
      go_wp2_with fail
      refine (vwterm_c _ _ b L hV1 hT.out.bits (by omega)).mono ?_
      rintro e x2 ⟨s2, m2, rfl, hH2, hV2, hK2⟩
      have T2 := Two.mk2 hT.out hR1 hK1 hV2 hK2 Pk.bits_nil (by simp)
      have hH1' : HoldsB x2 s1 (Pk.seg L) := holdsB_far hH1 fun p hp => by
        obtain ⟨_, ds, h1⟩ := hA1 p hp
        exact hK2.block _ h1.lt (vw_notop hV1 h1 (by decide) (by decide))
      have hsl : (Pk.seg L).length ≤ 1000000000 := by have := Pk.seg_len L; unfold Pk.nb at this; omega
      clear hH1 hV1 hD1 hR1 hK1 hV2 hK2 hA1
      go_wp2_with fail
      refine (same12_t _ (Pk.seg L) _ _ _ _ _ rfl hH1' hH2 hsl).mono ?_
      rintro e x3 ⟨rfl, hb3⟩
      have T3 := Lib.hid (T2.step hb3)
      clear T2 hb3 hH1' hH2 hsl
      go_wp2_with fail
      refine (awake12_c _).mono ?_
      rintro e w5 ⟨rfl, hb5⟩
      go_wp2_with fail
      go_ret
      exact ⟨rfl, below_call T3.out.below hb5⟩

set_option maxRecDepth 100000 in
theorem lifted (os : Os) (started : os.Started) (H : Type) (enc : TypeId × Value → H) :
    ReturnsInHanded {} Tryd.checked os 11 .any (fun w args => (Rows.rawbitsWritesSpec.pre enc Tryd.prog Tryd.f11 Rows.rawbitsWritesRow.domain false w args ∧ laidMetH Tryd.prog Rows.rawbitsWritesRow.laid w) ∧ sizedMet enc Tryd.prog Tryd.f11 (OpenSpec.ofChange Rows.rawbitsWritesSpec) false w args)
      (Rows.rawbitsWritesSpec.post enc Tryd.prog Tryd.f11 false true false false) := by
  refine returnsInHanded_of_change_and (C := Tryd.checked) (X := fun w _ => laidMetH Tryd.prog Rows.rawbitsWritesRow.laid w) (fun _ _ _ hh h => h.of_heap hh) own started (by kernel_rfl) Tryd.func11
    (ChangeSpec.witness_shaped (enc := enc) (C := Tryd.checked) (os := os) (X := fun w _ => laidMetH Tryd.prog Rows.rawbitsWritesRow.laid w) false (World.laidAll Tryd.prog os Rows.rawbitsWritesRow.laid) #[.slice none 0 0] 8 (World.laidAll_os _ _ _)
      (World.shaped_of_ZipB (by kernel_rfl) (by kernel_rfl)) (by kernel_rfl) (by kernel_rfl) (by kernel_rfl)
      (by rw [MakeChecks.laidMetH_plain _ _ _ (by kernel_rfl)]; exact laidMet_laidAll _ (by kernel_rfl) (by kernel_rfl))) ?_
  intro W base args ds gs before hval0 hW _ _ _ _
  have hval : ∀ (j : Nat) t v, Tryd.f11.params[j]? = some t → args[j]? = some v → Value.okWide Tryd.prog W .any base t v := hval0
  have hW' := hW
  obtain ⟨p, q, hA0, hV, rfl, _, _⟩ := hW
  have hA : DataW.TrodAll enc Tryd.prog W 0 (fun _ => true) true Tryd.f11.params.toList args.toList ds p := hA0
  rw [Tryd.params11] at hA hval
  obtain ⟨v0, vs0, d0, ds0, p0, q0, hargs, rfl, rfl, h0, r0⟩ := trodAll_cons hA
  obtain ⟨rfl, rfl, rfl⟩ := trodAll_nil r0
  obtain rfl : args = #[v0] := by cases args; simp_all
  obtain ⟨rfl, rfl⟩ := trodVars_none hV
  clear hA0 hval0
  simp only [List.append_nil] at hW'
  have l0 : ∀ x ∈ p0, x.block < W.heap.size := fun x hx => hW'.lt x (by simp [hx])
  obtain ⟨s0, b0, m0, rfl, hB0, _, _, _⟩ := open_calls12 (hval 0 69 v0 rfl rfl) h0
  refine (walk b0 s0 m0 W hB0).mono fun e W' ⟨he, hb⟩ => ?_
  subst he
  exact ⟨_, rfl, post_low (pa := p0 ++ ([])) (pv := []) hW' (fun _ _ _ => (trodAll_cons_mk (shut_bool Tryd.underlying4 _) trodAll_mk0)) (fun sp hsp => (trodAll_cons_mk (trod_low laidOut (by kernel_rfl) (of_decide_eq_true (by kernel_rfl)) h0 hb l0 (fun x hx => hsp x (by simp [hx]))) trodAll_mk0)) (fun _ _ => rfl) (by simp) hb (ok_one (by kernel_rfl) rfl (okWide_bool_mk Tryd.underlying4 _))⟩

theorem over : Rows.rawbitsWritesRow.holds Tryd.pinned (OpenSpec.ofChange Rows.rawbitsWritesSpec) :=
  OpenClaim.holds_of_wide 11 Tryd.f11 rfl rfl rfl rfl rfl rfl rfl ⟨rfl, rfl, rfl, rfl, rfl⟩ rfl rfl rfl rfl rfl (by kernel_rfl) Tryd.func11 (by kernel_rfl)
    (of_decide_eq_true (by kernel_rfl)) (by unfold Func.isWrapper; first | (rw [if_pos (by decide +kernel)]; kernel_rfl) | (rw [if_neg (by decide +kernel)]; exact ⟨rfl, rfl⟩))
    (fun os started H enc _ => lifted os started H enc)
theorem proved : Rows.RawbitsWritesCardSaid :=
  Claim7.holds_tied_plain_at .later [] [.data, .pinned] true Rows.rawbitsWritesCard.stood.harness false over (fun _ h => by cases h) (by kernel_rfl) (fun _ h => by cases h) rawbitsWrites_row_tie rfl ⟨rfl, rfl⟩ (by kernel_rfl) rfl
    (fun f fn hf hfn => by
      obtain rfl : f = 11 := Option.some.inj ((show Tryd.prog.funcNamed Rows.rawbitsWritesRow.func = some 11 by kernel_rfl).symm.trans hf) |>.symm
      obtain rfl : fn = Tryd.f11 := (Option.some.inj (Tryd.func11.symm.trans hfn)).symm
      exact ⟨by kernel_rfl, fun j t ht => by
        rw [Tryd.params11] at ht
        have hm : t ∈ [69] := by simpa using Array.mem_of_getElem? ht
        have hall : ([69].all fun u => !Tryd.prog.wantsStandIn u) = true := by kernel_rfl
        exact (show Tryd.prog.wantsStandIn t = false by simpa using List.all_eq_true.1 hall t hm)⟩)
    (by kernel_rfl)
#print axioms proved
end Go.Proofs.YtbaappodeicomaaDoor.rawbitsWrites
