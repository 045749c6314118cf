/-
  For every list of calls the statement BitioWrites returns true: the code's writer answers each call as the reference's does, and both hold the same bytes in the end; the list reads afterwards as before.
  Conditions: none beyond those of the given statement.
-/
import Derived.Test.YtdhjmbjpigiadaaLawB
set_option maxRecDepth 100000
namespace Go.Proofs.Ytdhjmbjpigiadaa.bitioWrites
open Go.ChangeShapes Go.WideShapes Go.ChangeAt Go.RowKit Go.Joins Go.Deep

set_option maxRecDepth 100000 in
set_option maxHeartbeats 4000000 in
theorem walk (l : List (Int × Int × Int)) (s : Option Addr) (m : Nat) (w : World) (hO : HoldsO w s l) :
    Calls Try.prog 3 #[.slice s l.length m] w fun e w' => e = .returned (.bool true) ∧ Below w.heap.size w w' := by
  have hf := few_c l s m w hO
  cases hfb : fewO l with
  | false =>
    rw [hfb] at hf
    clear hfb
    go_enter Try.func3, Try.ntmps3
    go_wp2_with fail
    refine hf.mono ?_
    rintro e w1 ⟨rfl, hb1⟩
    go_wp2_with fail
    refine (example09_c _).mono ?_
    rintro e w2 ⟨rfl, hb2⟩
    go_wp2_with fail
    go_ret
    exact ⟨rfl, below_call hb1 hb2⟩
  | true =>
    rw [hfb] at hf
    have hl200 : l.length ≤ 200 := by simp [fewO] at hfb; exact hfb.1
    have HF := Lib.hid (fun k => wrL_few hfb k)
    have HO := Lib.hid hO
    clear hfb hO
    go_enter Try.func3, Try.ntmps3
    go_wp2_with fail
    refine hf.mono ?_
    rintro e w1 ⟨rfl, hb1⟩
    go_wp2_with fail
    refine (new_c _).mono ?_
    rintro e w2 ⟨a, rfl, hW2, hb2⟩
    go_wp2_with fail
    refine (vnew_c _).mono ?_
    rintro e w3 ⟨b, rfl, hV3, hb3⟩
    have hW3 := hW2.below hb3
    have hD3 : Dj w3 a b := Dj.new hb3 hW2.fl (fun k hk => (hV3.foot k hk).1)
    have hB3 := below_call (below_call hb1 hb2) hb3
    have hz := hb1.size
    have hz2 := hb2.size
    have hI : Hid (Two w a b [] w3) := two_start hW3 hV3 hD3 hB3 hz (by omega)
    clear hW2 hb1 hb2 hb3 hW3 hV3 hD3 hB3 hf hz hz2
    go_wp2_with fail
    go_loopw [15] (fun i wr => ∃ k : Nat, k ≤ l.length ∧ i = .int .i64 (k : Int) ∧ Hid (Two w a b (wrL (l.take k)) wr)) (fun i _ => l.length - (intOf i).toNat)
    case atStart => exact ⟨0, Nat.zero_le _, rfl, hI⟩
    case round =>
      obtain ⟨k, hk, rfl, hT⟩ := hrel
      by_cases hlt : k < l.length
      · obtain ⟨bo, off, rfl, hr⟩ : ∃ b off, s = some ⟨b, off, none⟩ ∧ ∀ k (_ : k < l.length), OpAt wr b (off + k * 3) l[k] := by
          rcases HO.out.call hT.out.below with rfl | h
          · simp at hlt
          · exact h
        obtain ⟨c0, c1, c2⟩ := hr k hlt
        obtain ⟨q, hq⟩ : ∃ q, q = l[k] := ⟨_, rfl⟩
        obtain ⟨q0, q1, q2⟩ := q
        rw [← hq] at c0 c1 c2
        have hsn : Hid (wrL (l.take (k + 1)) = wrL (l.take k) ++ wrM q0 q1 q2) := by
          show _ = _
          rw [List.take_succ_eq_append_getElem hlt, wrL_snoc, ← hq]
        have hlen := HF.out k
        have hbits := wrL_bits (l.take k)
        clear hr hq
        go_upto_region 7 with fail
        obtain ⟨g, hg⟩ : ∃ g, g = wr.heap.size := ⟨_, rfl⟩
        have o0 : Blk (wr.alloc (.cells #[.int .i64 q0, .int .i64 q1, .int .i64 q2] 30)).drew g 30 #[.int .i64 q0, .int .i64 q1, .int .i64 q2] := by rw [hg]; exact (Blk.new wr _ _).drew
        have T0 : Two w a b (wrL (l.take k)) (wr.alloc (.cells #[.int .i64 q0, .int .i64 q1, .int .i64 q2] 30)).drew := hT.out.step ((Below.refl _ _).alloc (Nat.le_refl _) _).drew
        rw [← hg]
        have K0 := op_open o0
        have hw0 := write_c _ _ a _ q0 q1 q2 T0.wr hbits (by omega)
        have hv0 := fun (x : World) (h : Vr x w.heap.size b (wrL (l.take k))) => writeR_c x _ b _ q0 q1 q2 h (by omega)
        have hne : (wrE q0 q1 q2 != wrE q0 q1 q2) = false := by simp
        have HO0 := Lib.hid o0
        have HT0 := Lib.hid T0
        clear c0 c1 c2 hg o0 T0
        generalize wrE q0 q1 q2 = E at *
        generalize wrL (l.take k) ++ wrM q0 q1 q2 = L1 at *
        go_cut [32] (fun s32 wx => s32 = .bool false ∧ Hid (Two w a b L1 wx))
        case first =>
          go_region_held3 (fun w' => w'.cell? ⟨g, 0, none⟩ = some (.int .i64 q0) ∧ w'.cell? ⟨g, 1, none⟩ = some (.int .i64 q1) ∧ w'.cell? ⟨g, 2, none⟩ = some (.int .i64 q2))
            (first | (with_reducible exact K0) | (with_reducible exact K1) | (with_reducible exact K2) | fail)
            (first | (go_at_call 22; (with_reducible refine hw0.mono ?_); rintro e x1 ⟨rfl, hW1, hK1⟩; obtain ⟨hV1, hD1, ho1, hB1⟩ := HT0.out.w1 HO0.out hK1; have K1 := op_open ho1) | (go_at_call 23; (with_reducible refine (hv0 _ hV1).mono ?_); rintro e x2 ⟨rfl, hV2, hK2⟩; have T2 := Two.w2 hW1 hV1 hD1 hB1 hV2 hK2; have K2 := op_open (ho1.kp hK2 (hV1.notop ho1))) | (go_at_call 24; (with_reducible refine (len_c _ _ a _ T2.wr).mono ?_); rintro e wn ⟨rfl, rfl⟩) | (go_at_call 25; (with_reducible refine (vlen_c _ _ b _ T2.vr).mono ?_); rintro e wn ⟨rfl, rfl⟩) | fail)
          all_goals
            go_wp2_with fail
            go_meet
            exact ⟨rfl, T2⟩
        case rest =>
          obtain ⟨rfl, hT2⟩ := hcut
          go_wp2_with fail
          go_roundw
          case rel => exact ⟨k + 1, by omega, by go_num, by rw [hsn.out]; exact hT2⟩
          case measure => simp [intOf]; omega
      · obtain rfl : k = l.length := by omega
        have hlen := HF.out l.length
        have hbits := wrL_bits (l.take l.length)
        have T0 := hT.out
        generalize wrL (l.take l.length) = L at *
        clear hT hlt hk
        go_wp2_with fail
        refine (bytes_c _ _ a _ T0.wr (by omega)).mono ?_
        rintro e x1 ⟨g1, p1, rfl, hr1, _, hb1⟩
        have T1 := T0.step hb1
        clear T0 hb1
        go_wp2_with fail
        refine (vbytes_c _ _ b _ T1.vr hbits (by omega)).mono ?_
        rintro e x2 ⟨s2, m2, rfl, hh2, hb2⟩
        have T2 := T1.step hb2
        have hr2 := hr1.holds.call hb2
        clear T1 hb2 hr1
        go_wp2_with fail
        refine (same_t _ _ _ _ _ _ _ rfl hr2 hh2).mono ?_
        rintro e wn ⟨rfl, rfl⟩
        clear hr2 hh2
        go_wp2_with fail
        refine (bytes_c _ _ a _ T2.wr (by omega)).mono ?_
        rintro e x3 ⟨g3, p3, rfl, hr3, _, hb3⟩
        have T3 := T2.step hb3
        clear T2 hb3
        go_wp2_with fail
        refine (vbytes_c _ _ b _ T3.vr hbits (by omega)).mono ?_
        rintro e x4 ⟨s4, m4, rfl, hh4, hb4⟩
        have T4 := T3.step hb4
        have hr4 := hr3.holds.call hb4
        clear T3 hb4 hr3
        go_wp2_with fail
        refine (same_t _ _ _ _ _ _ _ rfl hr4 hh4).mono ?_
        rintro e wn ⟨rfl, rfl⟩
        clear hr4 hh4
        go_wp2_with fail
        refine (example09_c _).mono ?_
        rintro e x5 ⟨rfl, hb5⟩
        have T5 := T4.step hb5
        clear T4 hb5
        go_wp2_with fail
        go_ret
        exact ⟨rfl, T5.below⟩

set_option maxRecDepth 100000 in
theorem lifted (os : Os) (started : os.Started) (H : Type) (enc : TypeId × Value → H) :
    ReturnsInHanded {} Try.checked os 3 .any (Rows.bitioWritesSpec.pre6 enc Try.prog Try.f3 Rows.bitioWritesRow.domain false) (Rows.bitioWritesSpec.post enc Try.prog Try.f3 false true false false) := by
  refine returnsInHanded_of_change (C := Try.checked) own started (by kernel_rfl) Try.func3
    (ChangeSpec.witness6 (enc := enc) (C := Try.checked) false ⟨#[], #[.slice none 0 0], []⟩ 8 (by kernel_rfl) (by kernel_rfl) (by kernel_rfl) (by kernel_rfl)) ?_
  intro W base args ds gs before hval0 hW _ _
  have hval : ∀ (j : Nat) t v, Try.f3.params[j]? = some t → args[j]? = some v → Value.okWide Try.prog W .any base t v := hval0
  have hW' := hW
  obtain ⟨p, q, hA0, hV, rfl, _, _⟩ := hW
  have hA : DataW.TrodAll enc Try.prog W 0 (fun _ => true) true Try.f3.params.toList args.toList ds p := hA0
  rw [Try.params3] at hA hval
  obtain ⟨v0, vs0, d0, ds0, p0, q0, hargs, rfl, rfl, h0, r0⟩ := trodAll_cons hA
  obtain ⟨rfl, rfl, rfl⟩ := trodAll_nil r0
  obtain rfl : args = #[v0] := by cases args; simp_all
  obtain ⟨rfl, rfl⟩ := trodVars_none hV
  clear hA0 hval0
  simp only [List.append_nil] at hW'
  have l0 : ∀ x ∈ p0, x.block < W.heap.size := fun x hx => hW'.lt x (by simp [hx])
  obtain ⟨s0, o0, m0, rfl, hO0⟩ := open_ops (hval 0 22 v0 rfl rfl) h0
  refine (walk o0 s0 m0 W hO0).mono fun e W' ⟨he, hb⟩ => ?_
  subst he
  exact ⟨_, rfl, post_low (pa := p0 ++ ([])) (pv := []) hW' (fun _ _ _ => (trodAll_cons_mk (shut_bool Try.underlying4 _) trodAll_mk0)) (fun sp hsp => (trodAll_cons_mk (trod_low laidOut (by kernel_rfl) (of_decide_eq_true (by kernel_rfl)) h0 hb l0 (fun x hx => hsp x (by simp [hx]))) trodAll_mk0)) (fun _ _ => rfl) (by simp) hb (ok_one (by kernel_rfl) rfl (okWide_bool_mk Try.underlying4 _))⟩

theorem over : Rows.bitioWritesRow.holds Try.pinned (OpenSpec.ofChange Rows.bitioWritesSpec) :=
  OpenClaim.holds_of_wide 3 Try.f3 rfl rfl rfl rfl rfl rfl rfl ⟨rfl, rfl, rfl, rfl, rfl⟩ rfl rfl rfl rfl rfl (by kernel_rfl) Try.func3 (by kernel_rfl)
    (of_decide_eq_true (by kernel_rfl)) (by unfold Func.isWrapper; first | (rw [if_pos (by decide +kernel)]; kernel_rfl) | (rw [if_neg (by decide +kernel)]; exact ⟨rfl, rfl⟩))
    (fun os started H enc _ => lifted os started H enc)

theorem proved : Rows.BitioWritesSaid :=
  over
#print axioms proved
end Go.Proofs.Ytdhjmbjpigiadaa.bitioWrites
