/-
  For every list of calls the statement BitioStuffs returns true; the list reads afterwards as before.
  Conditions: none beyond those of the given statement.
-/
import Derived.Test.YtdhjmbjpigiadaaLawB
import Derived.Test.YtdhjmbjpigiadaaBj
set_option maxRecDepth 100000
namespace Go.Proofs.Ytdhjmbjpigiadaa.bitioStuffs
open Go.ChangeShapes Go.WideShapes Go.ChangeAt Go.RowKit Go.Joins Go.Deep

set_option maxRecDepth 100000 in
set_option maxHeartbeats 4000000 in
theorem walk (l : List (Int × Int × Int)) (s : Option Addr) (m : Nat) (w : World) (hO : HoldsO w s l) :
    Calls Try.prog 6 #[.slice s l.length m] w fun e w' => e = .returned (.bool true) ∧ Below w.heap.size w w' := by
  have hf := few_c l s m w hO
  cases hfb : fewO l with
  | false =>
    rw [hfb] at hf
    clear hfb
    go_enter Try.func6, Try.ntmps6
    go_wp2_with fail
    refine hf.mono ?_
    rintro e w1 ⟨rfl, hb1⟩
    go_wp2_with fail
    refine (example09_c _).mono ?_
    rintro e w2 ⟨rfl, hb2⟩
    go_wp2_with fail
    go_ret
    exact ⟨rfl, below_call hb1 hb2⟩
  | true =>
    rw [hfb] at hf
    have hl200 : l.length ≤ 200 := by simp [fewO] at hfb; exact hfb.1
    have HF := Lib.hid (fun k => wrL_few hfb k)
    have HO := Lib.hid hO
    clear hfb hO
    go_enter Try.func6, Try.ntmps6
    go_wp2_with fail
    refine hf.mono ?_
    rintro e w1 ⟨rfl, hb1⟩
    go_wp2_with fail
    refine (new_c _).mono ?_
    rintro e w2 ⟨a, rfl, hW2, hb2⟩
    have hI : Hid (One w a [] w2) := ⟨hW2.lower hb1.size, below_call hb1 hb2⟩
    clear hW2 hb1 hb2 hf
    go_wp2_with fail
    go_loopw [16] (fun i wr => ∃ k : Nat, k ≤ l.length ∧ i = .int .i64 (k : Int) ∧ Hid (One w a (wrL (l.take k)) wr)) (fun i _ => l.length - (intOf i).toNat)
    case atStart => exact ⟨0, Nat.zero_le _, rfl, hI⟩
    case round =>
      obtain ⟨k, hk, rfl, hT⟩ := hrel
      have hlen := HF.out k
      have hbits := wrL_bits (l.take k)
      by_cases hlt : k < l.length
      · obtain ⟨bo, off, rfl, hr⟩ : ∃ b off, s = some ⟨b, off, none⟩ ∧ ∀ k (_ : k < l.length), OpAt wr b (off + k * 3) l[k] := by
          rcases HO.out.call hT.out.below with rfl | h
          · simp at hlt
          · exact h
        obtain ⟨c0, c1, c2⟩ := hr k hlt
        obtain ⟨q, hq⟩ : ∃ q, q = l[k] := ⟨_, rfl⟩
        obtain ⟨q0, q1, q2⟩ := q
        rw [← hq] at c0 c1 c2
        have hsn : Hid (wrL (l.take (k + 1)) = wrL (l.take k) ++ wrM q0 q1 q2) := by
          show _ = _
          rw [List.take_succ_eq_append_getElem hlt, wrL_snoc, ← hq]
        have T0 : One w a (wrL (l.take k)) (wr.alloc (.cells #[.int .i64 q0, .int .i64 q1, .int .i64 q2] 30)) := hT.out.step ((Below.refl _ _).alloc (Nat.le_refl _) _)
        have hw0 := write_c _ _ a _ q0 q1 q2 T0.wr hbits (by omega)
        have HT0 := Lib.hid T0
        clear hr hq T0
        go_wp2_with (first | (go_at_call 22; (with_reducible refine hw0.mono ?_); rintro e x1 ⟨rfl, hW1, hK1⟩))
        have T1 : One w a (wrL (l.take k) ++ wrM q0 q1 q2) x1 := ⟨hW1, HT0.out.below.trans (HT0.out.wr.out hK1)⟩
        have HT1 := Lib.hid T1
        clear T1 hw0 c0 c1 c2 hW1 hK1
        go_roundw
        case rel => exact ⟨k + 1, by omega, by go_num, by rw [hsn.out]; exact HT1.out⟩
        case measure => simp [intOf]; omega
      · obtain rfl : k = l.length := by omega
        have T0 := hT.out
        generalize wrL (l.take l.length) = L at *
        clear hT hlt hk
        go_wp2_with fail
        refine (bytes_c _ _ a _ T0.wr (by omega)).mono ?_
        rintro e x1 ⟨g1, p1, rfl, hr1, _, hb1⟩
        have T1 := T0.step hb1
        have hst := Bi.enc_stuff hbits
        have hel := Bi.enc_len hbits
        have hes : (Bi.enc L).length ≤ 1000000 := by
          have h1 := Bi.st_len L
          unfold Bi.enc Bi.fin
          split
          · rw [List.length_append]; simp; omega
          · omega
        have hen : L.length = 0 → (Bi.enc L).length = 0 := fun h => by rw [List.length_eq_zero_iff.1 h]; rfl
        have hH := hr1.holds
        clear T0 hb1 hr1
        generalize Bi.enc L = E at *
        have hce : ∀ k (_ : k < E.length), x1.cell? ⟨g1, k, none⟩ = some (.int .u8 E[k]) := by
          rcases hH with rfl | ⟨b, off, e, hr⟩
          · intro k hk; simp at hk
          · simp at e
            obtain ⟨rfl, rfl⟩ := e
            intro k hk
            have := hr k hk
            rwa [Nat.zero_add] at this
        have HST := Lib.hid hst
        have HCE := Lib.hid hce
        have HEN := Lib.hid hen
        clear hst hce hen hH
        go_wp2_with fail
        go_loop [28] (fun i => ∃ j : Nat, j ≤ E.length ∧ i = .int .i64 (j : Int)) (fun i => E.length - (intOf i).toNat)
        case atStart => exact ⟨0, Nat.zero_le _, rfl⟩
        case round =>
          obtain ⟨j, hj, rfl⟩ := hrel
          by_cases hjl : j < E.length
          · have cj := HCE.out j hjl
            by_cases h255 : E[j] = 255
            · obtain ⟨h2, h128⟩ := HST.out j hjl h255
              have cj2 := HCE.out (j + 1) h2
              rw [h255] at cj
              have hne : ((j : Int) + 1 == (E.length : Int)) = false := by simp; omega
              have hd : decide ((128 : Int) ≤ E[j + 1]) = false := decide_eq_false (by omega)
              clear h255
              generalize E[j + 1] = X at *
              go_wp2_with fail
              go_round
              case rel => exact ⟨j + 1, by omega, by go_num⟩
              case measure => simp [intOf]; omega
            · have hne : (E[j] == 255) = false := by simpa using h255
              clear h255
              generalize E[j] = X at *
              go_wp2_with fail
              go_round
              case rel => exact ⟨j + 1, by omega, by go_num⟩
              case measure => simp [intOf]; omega
          · obtain rfl : j = E.length := by omega
            have hq1 : (L.length : Int) ≤ 8 * (E.length : Int) := by omega
            have hlc := len_c x1 _ a _ T1.wr
            rcases Nat.eq_zero_or_pos L.length with h0 | h0
            · have h1 := HEN.out h0
              have HT1 := Lib.hid T1
              rw [h1] at *
              rw [h0] at hlc
              clear h0 h1 T1 hjl
              go_wp2_with (first | (go_at_call 24; (with_reducible refine hlc.mono ?_); rintro e wn ⟨rfl, rfl⟩))
              refine (example09_c _).mono ?_
              rintro e x5 ⟨rfl, hb5⟩
              have T5 := HT1.out.step hb5
              clear hb5
              go_wp2_with fail
              go_ret
              exact ⟨rfl, T5.below⟩
            · have HT1 := Lib.hid T1
              clear T1
              go_wp2_with (first | (go_at_call 24; (with_reducible refine hlc.mono ?_); rintro e wn ⟨rfl, rfl⟩))
              refine (example09_c _).mono ?_
              rintro e x5 ⟨rfl, hb5⟩
              have T5 := HT1.out.step hb5
              clear hb5
              go_wp2_with fail
              go_ret
              exact ⟨rfl, T5.below⟩

set_option maxRecDepth 100000 in
theorem lifted (os : Os) (started : os.Started) (H : Type) (enc : TypeId × Value → H) :
    ReturnsInHanded {} Try.checked os 6 .any (Rows.bitioStuffsSpec.pre6 enc Try.prog Try.f6 Rows.bitioStuffsRow.domain false) (Rows.bitioStuffsSpec.post enc Try.prog Try.f6 false true false false) := by
  refine returnsInHanded_of_change (C := Try.checked) own started (by kernel_rfl) Try.func6
    (ChangeSpec.witness6 (enc := enc) (C := Try.checked) false ⟨#[], #[.slice none 0 0], []⟩ 8 (by kernel_rfl) (by kernel_rfl) (by kernel_rfl) (by kernel_rfl)) ?_
  intro W base args ds gs before hval0 hW _ _
  have hval : ∀ (j : Nat) t v, Try.f6.params[j]? = some t → args[j]? = some v → Value.okWide Try.prog W .any base t v := hval0
  have hW' := hW
  obtain ⟨p, q, hA0, hV, rfl, _, _⟩ := hW
  have hA : DataW.TrodAll enc Try.prog W 0 (fun _ => true) true Try.f6.params.toList args.toList ds p := hA0
  rw [Try.params6] at hA hval
  obtain ⟨v0, vs0, d0, ds0, p0, q0, hargs, rfl, rfl, h0, r0⟩ := trodAll_cons hA
  obtain ⟨rfl, rfl, rfl⟩ := trodAll_nil r0
  obtain rfl : args = #[v0] := by cases args; simp_all
  obtain ⟨rfl, rfl⟩ := trodVars_none hV
  clear hA0 hval0
  simp only [List.append_nil] at hW'
  have l0 : ∀ x ∈ p0, x.block < W.heap.size := fun x hx => hW'.lt x (by simp [hx])
  obtain ⟨s0, o0, m0, rfl, hO0⟩ := open_ops (hval 0 22 v0 rfl rfl) h0
  refine (walk o0 s0 m0 W hO0).mono fun e W' ⟨he, hb⟩ => ?_
  subst he
  exact ⟨_, rfl, post_low (pa := p0 ++ ([])) (pv := []) hW' (fun _ _ _ => (trodAll_cons_mk (shut_bool Try.underlying4 _) trodAll_mk0)) (fun sp hsp => (trodAll_cons_mk (trod_low laidOut (by kernel_rfl) (of_decide_eq_true (by kernel_rfl)) h0 hb l0 (fun x hx => hsp x (by simp [hx]))) trodAll_mk0)) (fun _ _ => rfl) (by simp) hb (ok_one (by kernel_rfl) rfl (okWide_bool_mk Try.underlying4 _))⟩

theorem over : Rows.bitioStuffsRow.holds Try.pinned (OpenSpec.ofChange Rows.bitioStuffsSpec) :=
  OpenClaim.holds_of_wide 6 Try.f6 rfl rfl rfl rfl rfl rfl rfl ⟨rfl, rfl, rfl, rfl, rfl⟩ rfl rfl rfl rfl rfl (by kernel_rfl) Try.func6 (by kernel_rfl)
    (of_decide_eq_true (by kernel_rfl)) (by unfold Func.isWrapper; first | (rw [if_pos (by decide +kernel)]; kernel_rfl) | (rw [if_neg (by decide +kernel)]; exact ⟨rfl, rfl⟩))
    (fun os started H enc _ => lifted os started H enc)

theorem proved : Rows.BitioStuffsSaid :=
  over
#print axioms proved
end Go.Proofs.Ytdhjmbjpigiadaa.bitioStuffs
