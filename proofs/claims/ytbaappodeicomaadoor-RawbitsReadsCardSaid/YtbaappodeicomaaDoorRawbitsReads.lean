/-
  For all bytes and all integers the statement RawbitsReads returns true: the code's reader answers as the reference's does; the bytes read afterwards as before.
  Conditions: none beyond those of the given statement (the listed variables are tied by the card).
-/
import Derived.Test.YtbaappodeicomaaDoorTa
import Derived.Test.YtbaappodeicomaaDoorTv
import Derived.Test.YtbaappodeicomaaDoorFrameP
import Derived.Test.YtbaappodeicomaaDoorTie
import Derived.Test.YtbaappodeicomaaDoorCards
import Derived.LaidMore
import Derived.Lay
import Derived.SevenTiedAt
import Derived.Stop.Joined
set_option maxRecDepth 100000
namespace Go.Proofs.YtbaappodeicomaaDoor.rawbitsReads
open Go.ChangeShapes Go.WideShapes Go.ChangeAt Go.RowKit Go.Joins Go.Deep

structure Tr (w : World) (a b : Nat) (bs : List Int) (t : Nat) (W : World) : Prop where
  rd : Rr W w.heap.size a bs t
  sd : Sr W w.heap.size b bs t
  dj : Dj W a b
  below : Below w.heap.size w W
set_option maxHeartbeats 4000000 in
theorem walk (bs : List Int) (s : Option Addr) (m : Nat) (n : Int) (w : World) (hB : HoldsB w s bs) (hY : Am.bytes bs) (hn0 : s = none → bs = [] ∧ m = 0) :
    Calls Tryd.prog 12 #[.slice s bs.length m, .int .i64 n] w fun e w' => e = .returned (.bool true) ∧ Below w.heap.size w w' := by
  by_cases h5 : 300 < bs.length
  · have h6 : (300 : Int) < (bs.length : Int) := by omega
    go_enter Tryd.func12, Tryd.ntmps12
    go_wp2_with fail
    refine (awake12_c _).mono ?_
    rintro e w2 ⟨rfl, hb2⟩
    go_wp2_with fail
    go_ret
    exact ⟨rfl, hb2⟩
  by_cases h7 : 5000 < n
  · have h6 : ¬ (300 : Int) < (bs.length : Int) := by omega
    go_enter Tryd.func12, Tryd.ntmps12
    go_wp2_with fail
    refine (awake12_c _).mono ?_
    rintro e w2 ⟨rfl, hb2⟩
    go_wp2_with fail
    go_ret
    exact ⟨rfl, hb2⟩
  have hl1 : bs.length ≤ 300 := by omega
  have hl2 : n ≤ 5000 := by omega
  have HB := Lib.hid hB
  have HY := Lib.hid hY
  have HN := Lib.hid hn0
  clear hB hY hn0 h5 h7
  go_enter Tryd.func12, Tryd.ntmps12
  go_wp2_with fail
  refine (rnew_c _ bs s m HB.out HN.out (by omega)).mono ?_
  rintro e w2 ⟨a, rfl, hR2, hb2⟩
  go_wp2_with fail
  refine (srnew_c _ bs s m (HB.out.call hb2) HN.out (by omega)).mono ?_
  rintro e w3 ⟨b, rfl, hS3, hb3⟩
  have hI : Hid (Tr w a b bs 0 w3) := ⟨hR2.below hb3, hS3.lower hb2.size, Dj.new hb3 hR2.fl (fun k hk => (hS3.fp k hk).1), below_call hb2 hb3⟩
  clear hR2 hb2 hS3 hb3
  go_wp2_with fail
  go_loopw [7] (fun i wr => ∃ k : Nat, ((k : Int) ≤ n ∨ k = 0) ∧ i = .int .i64 (k : Int) ∧ Hid (Tr w a b bs k wr)) (fun i _ => (n - intOf i).toNat)
  case atStart => exact ⟨0, .inr rfl, rfl, hI⟩
  case round =>
    obtain ⟨k, hk, rfl, hT⟩ := hrel
    have hk5 : k ≤ 5000 := by omega
    by_cases hlt : (k : Int) < n
    · have hr0 := rget_c _ _ a bs k hT.out.rd HY.out (by omega)
      have hs0 := fun (x : World) (h : Sr x w.heap.size b bs k) => srget_c x _ b bs k h HY.out (by omega)
      generalize Pk.bitAt bs k = V at *
      have hV : (V != V) = false := by simp
      have hkk : (((k : Int) + 1) != ((k : Int) + 1)) = false := by simp
      clear hk
      go_wp2_with (first | (go_at_call 55; (with_reducible refine hr0.mono ?_); rintro e x1 ⟨rfl, hR1, hK1⟩; obtain ⟨hS1, hD1⟩ := hT.out.sd.kp hT.out.dj hK1) | (go_at_call 56; (with_reducible refine (hs0 _ hS1).mono ?_); rintro e x2 ⟨rfl, hS2, hK2⟩; have T2 : Hid (Tr w a b bs (k + 1) x2) := ⟨(hR1.kp hD1.symm hK2).1, hS2, (hR1.kp hD1.symm hK2).2.symm, (hT.out.below.trans (hT.out.rd.out hK1)).trans (hS1.out hK2)⟩) | (go_at_call 57; (with_reducible refine (rat_c _ _ _ _ _ T2.out.rd).mono ?_); rintro e wn ⟨rfl, rfl⟩) | (go_at_call 58; (with_reducible refine (srat_c _ _ _ _ _ T2.out.sd).mono ?_); rintro e wn ⟨rfl, rfl⟩))
      go_roundw
      case rel => exact ⟨k + 1, .inl (by omega), by go_num, T2⟩
      case measure => simp [intOf]; omega
    · go_wp2_with fail
      refine (awake12_c _).mono ?_
      rintro e w5 ⟨rfl, hb5⟩
      go_wp2_with fail
      go_ret
      exact ⟨rfl, below_call hT.out.below hb5⟩

set_option maxRecDepth 100000 in
theorem lifted (os : Os) (started : os.Started) (H : Type) (enc : TypeId × Value → H) :
    ReturnsInHanded {} Tryd.checked os 12 .any (fun w args => (Rows.rawbitsReadsSpec.pre enc Tryd.prog Tryd.f12 Rows.rawbitsReadsRow.domain false w args ∧ laidMetH Tryd.prog Rows.rawbitsReadsRow.laid w) ∧ sizedMet enc Tryd.prog Tryd.f12 (OpenSpec.ofChange Rows.rawbitsReadsSpec) false w args)
      (Rows.rawbitsReadsSpec.post enc Tryd.prog Tryd.f12 false true false false) := by
  refine returnsInHanded_of_change_and (C := Tryd.checked) (X := fun w _ => laidMetH Tryd.prog Rows.rawbitsReadsRow.laid w) (fun _ _ _ hh h => h.of_heap hh) own started (by kernel_rfl) Tryd.func12
    (ChangeSpec.witness_shaped (enc := enc) (C := Tryd.checked) (os := os) (X := fun w _ => laidMetH Tryd.prog Rows.rawbitsReadsRow.laid w) false (World.laidAll Tryd.prog os Rows.rawbitsReadsRow.laid) #[.slice none 0 0, .int .i64 0] 8 (World.laidAll_os _ _ _)
      (World.shaped_of_ZipB (by kernel_rfl) (by kernel_rfl)) (by kernel_rfl) (by kernel_rfl) (by kernel_rfl)
      (by rw [MakeChecks.laidMetH_plain _ _ _ (by kernel_rfl)]; exact laidMet_laidAll _ (by kernel_rfl) (by kernel_rfl))) ?_
  intro W base args ds gs before hval0 hW _ _ _ _
  have hval : ∀ (j : Nat) t v, Tryd.f12.params[j]? = some t → args[j]? = some v → Value.okWide Tryd.prog W .any base t v := hval0
  have hW' := hW
  obtain ⟨p, q, hA0, hV, rfl, _, _⟩ := hW
  have hA : DataW.TrodAll enc Tryd.prog W 0 (fun _ => true) true Tryd.f12.params.toList args.toList ds p := hA0
  rw [Tryd.params12] at hA hval
  obtain ⟨v0, vs0, d0, ds0, p0, q0, hargs, rfl, rfl, h0, r0⟩ := trodAll_cons hA
  obtain ⟨v1, vs1, d1, ds1, p1, q1, rfl, rfl, rfl, h1, r1⟩ := trodAll_cons r0
  obtain ⟨rfl, rfl, rfl⟩ := trodAll_nil r1
  obtain rfl : args = #[v0, v1] := by cases args; simp_all
  obtain ⟨rfl, rfl⟩ := trodVars_none hV
  clear hA0 hval0
  simp only [List.append_nil] at hW'
  have l0 : ∀ x ∈ p0, x.block < W.heap.size := fun x hx => hW'.lt x (by simp [hx])
  have l1 : ∀ x ∈ p1, x.block < W.heap.size := fun x hx => hW'.lt x (by simp [hx])
  obtain ⟨s0, b0, m0, rfl, hB0, hY0, hm0, _, hn0⟩ := open_bytes (hval 0 34 v0 rfl rfl) h0
  obtain ⟨i1, rfl, _, _, wi1⟩ := open_int Tryd.underlying3 (hval 1 3 v1 rfl rfl) h1
  refine (walk b0 s0 m0 i1 W hB0 hY0 hn0).mono fun e W' ⟨he, hb⟩ => ?_
  subst he
  exact ⟨_, rfl, post_low (pa := p0 ++ (p1 ++ ([]))) (pv := []) hW' (fun _ _ _ => (trodAll_cons_mk (shut_bool Tryd.underlying4 _) trodAll_mk0)) (fun sp hsp => (trodAll_cons_mk (trod_low laidOut (by kernel_rfl) (of_decide_eq_true (by kernel_rfl)) h0 hb l0 (fun x hx => hsp x (by simp [hx]))) (trodAll_cons_mk (trod_low laidOut (by kernel_rfl) (of_decide_eq_true (by kernel_rfl)) h1 hb l1 (fun x hx => hsp x (by simp [hx]))) trodAll_mk0))) (fun _ _ => rfl) (by simp) hb (ok_one (by kernel_rfl) rfl (okWide_bool_mk Tryd.underlying4 _))⟩

theorem over : Rows.rawbitsReadsRow.holds Tryd.pinned (OpenSpec.ofChange Rows.rawbitsReadsSpec) :=
  OpenClaim.holds_of_wide 12 Tryd.f12 rfl rfl rfl rfl rfl rfl rfl ⟨rfl, rfl, rfl, rfl, rfl⟩ rfl rfl rfl rfl rfl (by kernel_rfl) Tryd.func12 (by kernel_rfl)
    (of_decide_eq_true (by kernel_rfl)) (by unfold Func.isWrapper; first | (rw [if_pos (by decide +kernel)]; kernel_rfl) | (rw [if_neg (by decide +kernel)]; exact ⟨rfl, rfl⟩))
    (fun os started H enc _ => lifted os started H enc)
theorem proved : Rows.RawbitsReadsCardSaid :=
  Claim7.holds_tied_plain_at .later [] [.data, .pinned] true Rows.rawbitsReadsCard.stood.harness false over (fun _ h => by cases h) (by kernel_rfl) (fun _ h => by cases h) rawbitsReads_row_tie rfl ⟨rfl, rfl⟩ (by kernel_rfl) rfl
    (fun f fn hf hfn => by
      obtain rfl : f = 12 := Option.some.inj ((show Tryd.prog.funcNamed Rows.rawbitsReadsRow.func = some 12 by kernel_rfl).symm.trans hf) |>.symm
      obtain rfl : fn = Tryd.f12 := (Option.some.inj (Tryd.func12.symm.trans hfn)).symm
      exact ⟨by kernel_rfl, fun j t ht => by
        rw [Tryd.params12] at ht
        have hm : t ∈ [34, 3] := by simpa using Array.mem_of_getElem? ht
        have hall : ([34, 3].all fun u => !Tryd.prog.wantsStandIn u) = true := by kernel_rfl
        exact (show Tryd.prog.wantsStandIn t = false by simpa using List.all_eq_true.1 hall t hm)⟩)
    (by kernel_rfl)
#print axioms proved
end Go.Proofs.YtbaappodeicomaaDoor.rawbitsReads
