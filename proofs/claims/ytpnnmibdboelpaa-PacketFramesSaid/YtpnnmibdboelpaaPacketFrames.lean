/-
  For every slice of bytes, offset and range the statement PacketFrames returns true; the slice reads afterwards as before.
  Conditions: none beyond those of the given statement.
-/
import Derived.Test.YtpnnmibdboelpaaCv
set_option maxRecDepth 100000
namespace Go.Proofs.Ytpnnmibdboelpaa.packetFrames
open Go.ChangeShapes Go.WideShapes Go.ChangeAt Go.RowKit Go.Joins Go.Deep

set_option maxRecDepth 100000 in
set_option maxHeartbeats 2000000 in
theorem walk (bs : List Int) (s : Option Addr) (m : Nat) (a lo hi : Int) (w : World) (hH : HoldsB w s bs) (hB : Mk.bytes bs) (hm : bs.length ≤ m) :
    Calls Try.prog 5 #[.slice s bs.length m, .int .i64 a, .int .i64 lo, .int .i64 hi] w fun e w' => e = .returned (.bool true) ∧ Below w.heap.size w w' := by
  by_cases h1 : 500 < bs.length
  · have d1 : decide ((500 : Int) < bs.length) = true := decide_eq_true (by omega)
    have d1' : decide (500 < bs.length) = true := decide_eq_true (by omega)
    clear hH hB
    go_enter Try.func5, Try.ntmps5
    go_wp2_with (first | (go_at_call 8; (with_reducible refine (ex27_c _).mono ?_); rintro e wx ⟨rfl, hbx⟩) | fail)
    go_ret
    exact ⟨rfl, hbx⟩
  have d1 : decide ((500 : Int) < bs.length) = false := decide_eq_false (by omega)
  have d1' : decide (500 < bs.length) = false := decide_eq_false (by omega)
  have k1 := frame_c bs s m a w hH hB hm (by omega)
  have K2 := Lib.hid (fun W (h : HoldsB W s bs) => rframe_c bs s m a W h hB hm (by omega))
  have K3 := Lib.hid (fun W (h : HoldsB W s bs) => resync_c bs s m a lo hi W h hB hm (by omega))
  have K4 := Lib.hid (fun W (h : HoldsB W s bs) => rresync_c bs s m a lo hi W h hB hm (by omega))
  generalize fr bs a = R at *
  generalize rs bs a lo hi = S at *
  obtain ⟨q, f, t, e⟩ := R
  obtain ⟨p, n, ok⟩ := S
  have eq_ : (q == q) = true := by simp
  have ef : (f == f) = true := by simp
  have et : (t == t) = true := by simp
  have ee : (e == e) = true := by simp
  have ep : (p == p) = true := by simp
  have en : (n == n) = true := by simp
  have eo : (ok == ok) = true := by simp
  have HH := Lib.hid hH
  clear hH hB hm h1
  go_enter Try.func5, Try.ntmps5
  go_upto_region 4 with (first | (go_at_call 14; (with_reducible refine k1.mono ?_); rintro e w1 ⟨rfl, hb⟩; have HB1 := Lib.hid hb; clear hb k1) | fail)
  have hb := HB1.out.trans (((Below.refl w1.heap.size w1).alloc (Nat.le_refl _) (.cells #[.int .i64 f, .int .i64 t] 36)).mono HB1.out.size)
  have HB2 := Lib.hid hb
  have H2 := Lib.hid (HH.out.call hb)
  have S1 := Lib.hid (show Blk (w1.alloc (.cells #[.int .i64 f, .int .i64 t] 36)) w1.heap.size 36 #[.int .i64 f, .int .i64 t] from Blk.new _ _ _)
  clear hb HB1
  generalize w1.alloc (.cells #[.int .i64 f, .int .i64 t] 36) = W1 at *
  generalize w1.heap.size = g1 at *
  go_upto_region 5 with (first | (go_at_call 15; (with_reducible refine (K2.out _ H2.out).mono ?_); rintro e w2 ⟨rfl, hb⟩; have HB3 := Lib.hid hb; clear hb) | fail)
  have hb0 := HB3.out.trans (((Below.refl w2.heap.size w2).alloc (Nat.le_refl _) (.cells #[.int .i64 f, .int .i64 t] 36)).mono HB3.out.size)
  have hb := HB2.out.trans (hb0.mono HB2.out.size)
  have HB4 := Lib.hid hb
  have H4 := Lib.hid (HH.out.call hb)
  have S3 := Lib.hid (S1.out.below hb0)
  have S2 := Lib.hid (show Blk (w2.alloc (.cells #[.int .i64 f, .int .i64 t] 36)) w2.heap.size 36 #[.int .i64 f, .int .i64 t] from Blk.new _ _ _)
  clear hb hb0 HB3
  generalize w2.alloc (.cells #[.int .i64 f, .int .i64 t] 36) = W2 at *
  generalize w2.heap.size = g2 at *
  go_wp2_with (first | (go_at_call 16; (with_reducible refine (K3.out _ H4.out).mono ?_); rintro e w3 ⟨rfl, hb⟩; have HB5 := Lib.hid (HB4.out.trans (hb.mono HB4.out.size)); have H5 := Lib.hid (H4.out.call hb); have S5 := Lib.hid (S3.out.below hb); have S6 := Lib.hid (S2.out.below hb); clear hb) | (go_at_call 17; (with_reducible refine (K4.out _ H5.out).mono ?_); rintro e w4 ⟨rfl, hb⟩; have HB6 := Lib.hid (HB5.out.trans (hb.mono HB5.out.size)); have S7 := S5.out.below hb; have S8 := S6.out.below hb; have c0 := S7.two.1; have c1 := S7.two.2; have c2 := S8.two.1; have c3 := S8.two.2; clear hb) | (go_at_call 8; (with_reducible refine (ex27_c _).mono ?_); rintro e wx ⟨rfl, hbx⟩; have HBX := Lib.hid (HB6.out.trans (hbx.mono HB6.out.size)); clear hbx) | fail)
  go_ret
  exact ⟨rfl, HBX.out⟩

set_option maxRecDepth 100000 in
theorem lifted (os : Os) (started : os.Started) (H : Type) (enc : TypeId × Value → H) :
    ReturnsInHanded {} Try.checked os 5 .any (Rows.packetFramesSpec.pre6 enc Try.prog Try.f5 Rows.packetFramesRow.domain false) (Rows.packetFramesSpec.post enc Try.prog Try.f5 false true false false) := by
  refine returnsInHanded_of_change (C := Try.checked) own started (by kernel_rfl) Try.func5
    (ChangeSpec.witness6 (enc := enc) (C := Try.checked) false ⟨#[], #[.slice none 0 0, .int .i64 0, .int .i64 0, .int .i64 0], []⟩ 8 (by kernel_rfl) (by kernel_rfl) (by kernel_rfl) (by kernel_rfl)) ?_
  intro W base args ds gs before hval0 hW _ _
  have hval : ∀ (j : Nat) t v, Try.f5.params[j]? = some t → args[j]? = some v → Value.okWide Try.prog W .any base t v := hval0
  have hW' := hW
  obtain ⟨p, q, hA0, hV, rfl, _, _⟩ := hW
  have hA : DataW.TrodAll enc Try.prog W 0 (fun _ => true) true Try.f5.params.toList args.toList ds p := hA0
  rw [Try.params5] at hA hval
  obtain ⟨v0, vs0, d0, ds0, p0, q0, hargs, rfl, rfl, h0, r0⟩ := trodAll_cons hA
  obtain ⟨v1, vs1, d1, ds1, p1, q1, rfl, rfl, rfl, h1, r1⟩ := trodAll_cons r0
  obtain ⟨v2, vs2, d2, ds2, p2, q2, rfl, rfl, rfl, h2, r2⟩ := trodAll_cons r1
  obtain ⟨v3, vs3, d3, ds3, p3, q3, rfl, rfl, rfl, h3, r3⟩ := trodAll_cons r2
  obtain ⟨rfl, rfl, rfl⟩ := trodAll_nil r3
  obtain rfl : args = #[v0, v1, v2, v3] := by cases args; simp_all
  obtain ⟨rfl, rfl⟩ := trodVars_none hV
  clear hA0 hval0
  simp only [List.append_nil] at hW'
  have l0 : ∀ x ∈ p0, x.block < W.heap.size := fun x hx => hW'.lt x (by simp [hx])
  have l1 : ∀ x ∈ p1, x.block < W.heap.size := fun x hx => hW'.lt x (by simp [hx])
  have l2 : ∀ x ∈ p2, x.block < W.heap.size := fun x hx => hW'.lt x (by simp [hx])
  have l3 : ∀ x ∈ p3, x.block < W.heap.size := fun x hx => hW'.lt x (by simp [hx])
  obtain ⟨s0, b0, m0, rfl, hB0, hY0, hm0, hM0, hn0⟩ := open_bytes (hval 0 22 v0 rfl rfl) h0
  obtain ⟨i1, rfl, _, _, wi1⟩ := open_int Try.underlying3 (hval 1 3 v1 rfl rfl) h1
  obtain ⟨i2, rfl, _, _, wi2⟩ := open_int Try.underlying3 (hval 2 3 v2 rfl rfl) h2
  obtain ⟨i3, rfl, _, _, wi3⟩ := open_int Try.underlying3 (hval 3 3 v3 rfl rfl) h3
  refine (walk b0 s0 m0 i1 i2 i3 W hB0 hY0 hm0).mono fun e W' ⟨he, hb⟩ => ?_
  subst he
  exact ⟨_, rfl, post_low (pa := p0 ++ (p1 ++ (p2 ++ (p3 ++ ([]))))) (pv := []) hW' (fun _ _ _ => (trodAll_cons_mk (shut_bool Try.underlying4 _) trodAll_mk0)) (fun sp hsp => (trodAll_cons_mk (trod_low laidOut (by kernel_rfl) (of_decide_eq_true (by kernel_rfl)) h0 hb l0 (fun x hx => hsp x (by simp [hx]))) (trodAll_cons_mk (trod_low laidOut (by kernel_rfl) (of_decide_eq_true (by kernel_rfl)) h1 hb l1 (fun x hx => hsp x (by simp [hx]))) (trodAll_cons_mk (trod_low laidOut (by kernel_rfl) (of_decide_eq_true (by kernel_rfl)) h2 hb l2 (fun x hx => hsp x (by simp [hx]))) (trodAll_cons_mk (trod_low laidOut (by kernel_rfl) (of_decide_eq_true (by kernel_rfl)) h3 hb l3 (fun x hx => hsp x (by simp [hx]))) trodAll_mk0))))) (fun _ _ => rfl) (by simp) hb (ok_one (by kernel_rfl) rfl (okWide_bool_mk Try.underlying4 _))⟩

theorem over : Rows.packetFramesRow.holds Try.pinned (OpenSpec.ofChange Rows.packetFramesSpec) :=
  OpenClaim.holds_of_wide 5 Try.f5 rfl rfl rfl rfl rfl rfl rfl ⟨rfl, rfl, rfl, rfl, rfl⟩ rfl rfl rfl rfl rfl (by kernel_rfl) Try.func5 (by kernel_rfl)
    (of_decide_eq_true (by kernel_rfl)) (by unfold Func.isWrapper; first | (rw [if_pos (by decide +kernel)]; kernel_rfl) | (rw [if_neg (by decide +kernel)]; exact ⟨rfl, rfl⟩))
    (fun os started H enc _ => lifted os started H enc)

theorem proved : Rows.PacketFramesSaid :=
  over
#print axioms proved
end Go.Proofs.Ytpnnmibdboelpaa.packetFrames
