/-
  For every slice of bytes, offset and number the statement PacketNobody returns true; the slice reads afterwards as before.
  Conditions: none beyond those of the given statement.
-/
import Derived.Test.YtpnnmibdboelpaaCy
set_option maxRecDepth 100000
namespace Go.Proofs.Ytpnnmibdboelpaa.packetNobody
open Go.ChangeShapes Go.WideShapes Go.ChangeAt Go.RowKit Go.Joins Go.Deep

set_option maxRecDepth 100000 in
set_option maxHeartbeats 2000000 in
theorem walk (bs : List Int) (s : Option Addr) (m : Nat) (a q : Int) (z : Bool) (w : World) :
    Calls Try.prog 7 #[.slice s bs.length m, .int .i64 a, .int .i64 q, .bool z] w fun e w' => e = .returned (.bool true) ∧ Below w.heap.size w w' := by
  by_cases h1 : 500 < bs.length
  · have d1 : decide ((500 : Int) < bs.length) = true := decide_eq_true (by omega)
    have d1' : decide (500 < bs.length) = true := decide_eq_true (by omega)
    go_enter Try.func7, Try.ntmps7
    go_wp2_with (first | (go_at_call 8; (with_reducible refine (ex27_c _).mono ?_); rintro e wx ⟨rfl, hbx⟩) | fail)
    go_ret
    exact ⟨rfl, hbx⟩
  have d1 : decide ((500 : Int) < bs.length) = false := decide_eq_false (by omega)
  have d1' : decide (500 < bs.length) = false := decide_eq_false (by omega)
  clear h1
  cases z
  · have kr := read_no s bs.length m a q none w (.inl rfl)
    unfold pk0 at kr
    go_enter Try.func7, Try.ntmps7
    go_upto_region 7 with (first | (go_at_call 18; (with_reducible refine kr.mono ?_); rintro e w1 ⟨rfl, hb⟩; have HB1 := Lib.hid hb; clear hb kr) | fail)
    have ha : Below w1.heap.size w1 (w1.alloc (.cells pk0 29)) := (Below.refl _ _).alloc (Nat.le_refl _) _
    have HB2 := Lib.hid (HB1.out.trans (ha.mono HB1.out.size))
    have HK := Lib.hid (show Blk (w1.alloc (.cells pk0 29)) w1.heap.size 29 pk0 from Blk.new _ _ _)
    clear ha
    unfold pk0 at HB2 HK
    generalize w1.alloc (.cells #[.int .i64 0, .int .i64 0, .int .i64 0, .int .i64 0, .slice none 0 0, .slice none 0 0] 29) = W2 at *
    have ks := samePkt0 W2
    unfold pk0 at ks
    obtain ⟨c0, c1, c2, c3, c4, c5⟩ := load_pkt HK.out
    go_wp2_with (first | (go_at_call 19; (with_reducible refine ks.mono ?_); rintro e w3 ⟨rfl, hb⟩; have HB3 := Lib.hid (HB2.out.trans (hb.mono HB2.out.size)); clear hb) | (go_at_call 8; (with_reducible refine (ex27_c _).mono ?_); rintro e wx ⟨rfl, hbx⟩; have HBX := Lib.hid (HB3.out.trans (hbx.mono HB3.out.size)); clear hbx) | fail)
    go_ret
    exact ⟨rfl, HBX.out⟩
  · go_enter Try.func7, Try.ntmps7
    go_upto_region 6 with fail
    have H0 := Lib.hid (show Below w.heap.size w (w.alloc (.cells #[.pointer none, .bool false, .bool false, .bool false, .bool false, .bool false, .slice none 0 0, .slice none 0 0, .int .i64 0, .bool false] 51)) from (Below.refl _ _).alloc (Nat.le_refl _) _)
    have kr := read_no s bs.length m a q (some ⟨w.heap.size, 0, none⟩) (w.alloc (.cells #[.pointer none, .bool false, .bool false, .bool false, .bool false, .bool false, .slice none 0 0, .slice none 0 0, .int .i64 0, .bool false] 51)) (.inr ⟨w.heap.size, rfl, by simp, (Blk.new w 51 _).cell 0⟩)
    unfold pk0 at kr
    generalize w.alloc (.cells #[.pointer none, .bool false, .bool false, .bool false, .bool false, .bool false, .slice none 0 0, .slice none 0 0, .int .i64 0, .bool false] 51) = W0 at *
    go_upto_region 7 with (first | (go_at_call 18; (with_reducible refine kr.mono ?_); rintro e w1 ⟨rfl, hb⟩; have HB1 := Lib.hid (H0.out.trans (hb.mono H0.out.size)); clear hb kr) | fail)
    have ha : Below w1.heap.size w1 (w1.alloc (.cells pk0 29)) := (Below.refl _ _).alloc (Nat.le_refl _) _
    have HB2 := Lib.hid (HB1.out.trans (ha.mono HB1.out.size))
    have HK := Lib.hid (show Blk (w1.alloc (.cells pk0 29)) w1.heap.size 29 pk0 from Blk.new _ _ _)
    clear ha
    unfold pk0 at HB2 HK
    generalize w1.alloc (.cells #[.int .i64 0, .int .i64 0, .int .i64 0, .int .i64 0, .slice none 0 0, .slice none 0 0] 29) = W2 at *
    have ks := samePkt0 W2
    unfold pk0 at ks
    obtain ⟨c0, c1, c2, c3, c4, c5⟩ := load_pkt HK.out
    go_wp2_with (first | (go_at_call 19; (with_reducible refine ks.mono ?_); rintro e w3 ⟨rfl, hb⟩; have HB3 := Lib.hid (HB2.out.trans (hb.mono HB2.out.size)); clear hb) | (go_at_call 8; (with_reducible refine (ex27_c _).mono ?_); rintro e wx ⟨rfl, hbx⟩; have HBX := Lib.hid (HB3.out.trans (hbx.mono HB3.out.size)); clear hbx) | fail)
    go_ret
    exact ⟨rfl, HBX.out⟩

set_option maxRecDepth 100000 in
theorem lifted (os : Os) (started : os.Started) (H : Type) (enc : TypeId × Value → H) :
    ReturnsInHanded {} Try.checked os 7 .any (Rows.packetNobodySpec.pre6 enc Try.prog Try.f7 Rows.packetNobodyRow.domain false) (Rows.packetNobodySpec.post enc Try.prog Try.f7 false true false false) := by
  refine returnsInHanded_of_change (C := Try.checked) own started (by kernel_rfl) Try.func7
    (ChangeSpec.witness6 (enc := enc) (C := Try.checked) false ⟨#[], #[.slice none 0 0, .int .i64 0, .int .i64 0, .bool false], []⟩ 8 (by kernel_rfl) (by kernel_rfl) (by kernel_rfl) (by kernel_rfl)) ?_
  intro W base args ds gs before hval0 hW _ _
  have hval : ∀ (j : Nat) t v, Try.f7.params[j]? = some t → args[j]? = some v → Value.okWide Try.prog W .any base t v := hval0
  have hW' := hW
  obtain ⟨p, q, hA0, hV, rfl, _, _⟩ := hW
  have hA : DataW.TrodAll enc Try.prog W 0 (fun _ => true) true Try.f7.params.toList args.toList ds p := hA0
  rw [Try.params7] at hA hval
  obtain ⟨v0, vs0, d0, ds0, p0, q0, hargs, rfl, rfl, h0, r0⟩ := trodAll_cons hA
  obtain ⟨v1, vs1, d1, ds1, p1, q1, rfl, rfl, rfl, h1, r1⟩ := trodAll_cons r0
  obtain ⟨v2, vs2, d2, ds2, p2, q2, rfl, rfl, rfl, h2, r2⟩ := trodAll_cons r1
  obtain ⟨v3, vs3, d3, ds3, p3, q3, rfl, rfl, rfl, h3, r3⟩ := trodAll_cons r2
  obtain ⟨rfl, rfl, rfl⟩ := trodAll_nil r3
  obtain rfl : args = #[v0, v1, v2, v3] := by cases args; simp_all
  obtain ⟨rfl, rfl⟩ := trodVars_none hV
  clear hA0 hval0
  simp only [List.append_nil] at hW'
  have l0 : ∀ x ∈ p0, x.block < W.heap.size := fun x hx => hW'.lt x (by simp [hx])
  have l1 : ∀ x ∈ p1, x.block < W.heap.size := fun x hx => hW'.lt x (by simp [hx])
  have l2 : ∀ x ∈ p2, x.block < W.heap.size := fun x hx => hW'.lt x (by simp [hx])
  have l3 : ∀ x ∈ p3, x.block < W.heap.size := fun x hx => hW'.lt x (by simp [hx])
  obtain ⟨s0, b0, m0, rfl, hB0, hY0, hm0, hM0, hn0⟩ := open_bytes (hval 0 22 v0 rfl rfl) h0
  obtain ⟨i1, rfl, _, _, wi1⟩ := open_int Try.underlying3 (hval 1 3 v1 rfl rfl) h1
  obtain ⟨i2, rfl, _, _, wi2⟩ := open_int Try.underlying3 (hval 2 3 v2 rfl rfl) h2
  obtain ⟨z3, rfl, _⟩ := open_bool Try.underlying4 (hval 3 4 v3 rfl rfl) h3
  refine (walk b0 s0 m0 i1 i2 z3 W).mono fun e W' ⟨he, hb⟩ => ?_
  subst he
  exact ⟨_, rfl, post_low (pa := p0 ++ (p1 ++ (p2 ++ (p3 ++ ([]))))) (pv := []) hW' (fun _ _ _ => (trodAll_cons_mk (shut_bool Try.underlying4 _) trodAll_mk0)) (fun sp hsp => (trodAll_cons_mk (trod_low laidOut (by kernel_rfl) (of_decide_eq_true (by kernel_rfl)) h0 hb l0 (fun x hx => hsp x (by simp [hx]))) (trodAll_cons_mk (trod_low laidOut (by kernel_rfl) (of_decide_eq_true (by kernel_rfl)) h1 hb l1 (fun x hx => hsp x (by simp [hx]))) (trodAll_cons_mk (trod_low laidOut (by kernel_rfl) (of_decide_eq_true (by kernel_rfl)) h2 hb l2 (fun x hx => hsp x (by simp [hx]))) (trodAll_cons_mk (trod_low laidOut (by kernel_rfl) (of_decide_eq_true (by kernel_rfl)) h3 hb l3 (fun x hx => hsp x (by simp [hx]))) trodAll_mk0))))) (fun _ _ => rfl) (by simp) hb (ok_one (by kernel_rfl) rfl (okWide_bool_mk Try.underlying4 _))⟩

theorem over : Rows.packetNobodyRow.holds Try.pinned (OpenSpec.ofChange Rows.packetNobodySpec) :=
  OpenClaim.holds_of_wide 7 Try.f7 rfl rfl rfl rfl rfl rfl rfl ⟨rfl, rfl, rfl, rfl, rfl⟩ rfl rfl rfl rfl rfl (by kernel_rfl) Try.func7 (by kernel_rfl)
    (of_decide_eq_true (by kernel_rfl)) (by unfold Func.isWrapper; first | (rw [if_pos (by decide +kernel)]; kernel_rfl) | (rw [if_neg (by decide +kernel)]; exact ⟨rfl, rfl⟩))
    (fun os started H enc _ => lifted os started H enc)

theorem proved : Rows.PacketNobodySaid :=
  over
#print axioms proved
end Go.Proofs.Ytpnnmibdboelpaa.packetNobody
