/-
  For every slice of bytes the statement PacketChecksum returns true; the slice reads afterwards as before.
  Conditions: none beyond those of the given statement.
-/
import Derived.Test.YtpnnmibdboelpaaCv
set_option maxRecDepth 100000
namespace Go.Proofs.Ytpnnmibdboelpaa.packetChecksum
open Go.ChangeShapes Go.WideShapes Go.ChangeAt Go.RowKit Go.Joins Go.Deep

set_option maxRecDepth 100000 in
set_option maxHeartbeats 2000000 in
theorem walk (bs : List Int) (s : Option Addr) (m : Nat) (w : World) (hH : HoldsB w s bs) (hB : Mk.bytes bs) :
    Calls Try.prog 3 #[.slice s bs.length m] w fun e w' => e = .returned (.bool true) ∧ Below w.heap.size w w' := by
  by_cases h1 : 3000 < bs.length
  · have d1 : decide ((3000 : Int) < bs.length) = true := decide_eq_true (by omega)
    have d1' : decide (3000 < bs.length) = true := decide_eq_true (by omega)
    clear hH hB
    go_enter Try.func3, Try.ntmps3
    go_wp2_with (first | (go_at_call 8; (with_reducible refine (ex27_c _).mono ?_); rintro e wx ⟨rfl, hbx⟩) | fail)
    go_ret
    exact ⟨rfl, hbx⟩
  have d1 : decide ((3000 : Int) < bs.length) = false := decide_eq_false (by omega)
  have d1' : decide (3000 < bs.length) = false := decide_eq_false (by omega)
  have k1 := checksum_c bs s m w hH hB (by omega)
  have k2 := rchecksum_c bs s m w hH hB (by omega)
  generalize Ck.crc bs = X at *
  have e1 : (X == X) = true := by simp
  clear hH hB
  go_enter Try.func3, Try.ntmps3
  go_wp2_with (first | (go_at_call 9; (with_reducible refine k1.mono ?_); rintro e wn ⟨rfl, rfl⟩) | (go_at_call 10; (with_reducible refine k2.mono ?_); rintro e wn ⟨rfl, rfl⟩) | (go_at_call 8; (with_reducible refine (ex27_c _).mono ?_); rintro e wx ⟨rfl, hbx⟩) | fail)
  go_ret
  exact ⟨rfl, hbx⟩

set_option maxRecDepth 100000 in
theorem lifted (os : Os) (started : os.Started) (H : Type) (enc : TypeId × Value → H) :
    ReturnsInHanded {} Try.checked os 3 .any (Rows.packetChecksumSpec.pre6 enc Try.prog Try.f3 Rows.packetChecksumRow.domain false) (Rows.packetChecksumSpec.post enc Try.prog Try.f3 false true false false) := by
  refine returnsInHanded_of_change (C := Try.checked) own started (by kernel_rfl) Try.func3
    (ChangeSpec.witness6 (enc := enc) (C := Try.checked) false ⟨#[], #[.slice none 0 0], []⟩ 8 (by kernel_rfl) (by kernel_rfl) (by kernel_rfl) (by kernel_rfl)) ?_
  intro W base args ds gs before hval0 hW _ _
  have hval : ∀ (j : Nat) t v, Try.f3.params[j]? = some t → args[j]? = some v → Value.okWide Try.prog W .any base t v := hval0
  have hW' := hW
  obtain ⟨p, q, hA0, hV, rfl, _, _⟩ := hW
  have hA : DataW.TrodAll enc Try.prog W 0 (fun _ => true) true Try.f3.params.toList args.toList ds p := hA0
  rw [Try.params3] at hA hval
  obtain ⟨v0, vs0, d0, ds0, p0, q0, hargs, rfl, rfl, h0, r0⟩ := trodAll_cons hA
  obtain ⟨rfl, rfl, rfl⟩ := trodAll_nil r0
  obtain rfl : args = #[v0] := by cases args; simp_all
  obtain ⟨rfl, rfl⟩ := trodVars_none hV
  clear hA0 hval0
  simp only [List.append_nil] at hW'
  have l0 : ∀ x ∈ p0, x.block < W.heap.size := fun x hx => hW'.lt x (by simp [hx])
  obtain ⟨s0, b0, m0, rfl, hB0, hY0, hm0, hM0, hn0⟩ := open_bytes (hval 0 22 v0 rfl rfl) h0
  refine (walk b0 s0 m0 W hB0 hY0).mono fun e W' ⟨he, hb⟩ => ?_
  subst he
  exact ⟨_, rfl, post_low (pa := p0 ++ ([])) (pv := []) hW' (fun _ _ _ => (trodAll_cons_mk (shut_bool Try.underlying4 _) trodAll_mk0)) (fun sp hsp => (trodAll_cons_mk (trod_low laidOut (by kernel_rfl) (of_decide_eq_true (by kernel_rfl)) h0 hb l0 (fun x hx => hsp x (by simp [hx]))) trodAll_mk0)) (fun _ _ => rfl) (by simp) hb (ok_one (by kernel_rfl) rfl (okWide_bool_mk Try.underlying4 _))⟩

theorem over : Rows.packetChecksumRow.holds Try.pinned (OpenSpec.ofChange Rows.packetChecksumSpec) :=
  OpenClaim.holds_of_wide 3 Try.f3 rfl rfl rfl rfl rfl rfl rfl ⟨rfl, rfl, rfl, rfl, rfl⟩ rfl rfl rfl rfl rfl (by kernel_rfl) Try.func3 (by kernel_rfl)
    (of_decide_eq_true (by kernel_rfl)) (by unfold Func.isWrapper; first | (rw [if_pos (by decide +kernel)]; kernel_rfl) | (rw [if_neg (by decide +kernel)]; exact ⟨rfl, rfl⟩))
    (fun os started H enc _ => lifted os started H enc)

theorem proved : Rows.PacketChecksumSaid :=
  over
#print axioms proved
end Go.Proofs.Ytpnnmibdboelpaa.packetChecksum
