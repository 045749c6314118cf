/-
  For all resolutions, subbands and precincts the statement PartitionBands returns true.
  Conditions: none beyond those of the given statement.
-/
import Derived.Test.YtcdjkofgnelgeaaPv
set_option maxRecDepth 100000
namespace Go.Proofs.Ytcdjkofgnelgeaa.partitionBands
open Go.ChangeShapes Go.WideShapes Go.ChangeAt Go.RowKit Go.Joins Go.Deep

set_option maxHeartbeats 4000000 in
theorem walk (a b c d a2 b2 c2 d2 o px py idx : Int) (W : World) : Calls Try.prog 4 #[.agg #[.int .i64 a, .int .i64 b, .int .i64 c, .int .i64 d, .int .i64 a2, .int .i64 b2, .int .i64 c2, .int .i64 d2, .int .i64 o, .int .i64 px, .int .i64 py, .int .i64 idx]] W fun e w' => e = .returned (.bool true) ∧ Below W.heap.size W w' := by
  obtain ⟨WB, hWB⟩ : ∃ ww, ww = (W.alloc (.cells #[.int .i64 a, .int .i64 b, .int .i64 c, .int .i64 d, .int .i64 a2, .int .i64 b2, .int .i64 c2, .int .i64 d2, .int .i64 o, .int .i64 px, .int .i64 py, .int .i64 idx] 32)) := ⟨_, rfl⟩
  have hb0 : Below W.heap.size W WB := by rw [hWB]; exact (below_alloc (Below.refl _ W) (Nat.le_refl _) _)
  have B0 := Lib.hid hb0
  have hX : Blk WB (W.heap.size) 32 #[.int .i64 a, .int .i64 b, .int .i64 c, .int .i64 d, .int .i64 a2, .int .i64 b2, .int .i64 c2, .int .i64 d2, .int .i64 o, .int .i64 px, .int .i64 py, .int .i64 idx] := by
    have := Blk.new (W) 32 #[.int .i64 a, .int .i64 b, .int .i64 c, .int .i64 d, .int .i64 a2, .int .i64 b2, .int .i64 c2, .int .i64 d2, .int .i64 o, .int .i64 px, .int .i64 py, .int .i64 idx]
    rw [hWB]
    exact (show Blk _ (W.heap.size) _ _ by simpa using this)
  have HX0 := Lib.hid hX
  have HWB := Lib.hid hWB
  clear hb0 hWB hX
  have k3 := fun W1 : World => inband_c a b c d a2 b2 c2 d2 o px py idx W1
  have k4 := fun W1 : World => rinband_c a b c d a2 b2 c2 d2 o px py idx W1
  have ke := fun W1 : World => ex22_c W1
  have heq := eqR
  have hself := Pl.eq_self
  generalize decide (bOk a b c d ⟨a2, b2, c2, d2⟩ o px py idx) = ok at *
  generalize bandR a b c d ⟨a2, b2, c2, d2⟩ o px py idx = PP at *
  obtain ⟨p0, p1, p2, p3⟩ := PP
  dsimp only at k3 k4
  have e3 : (ok == ok) = true := by simp
  go_enter Try.func4, Try.ntmps4
  go_wp2_with (first | (go_at_call 13; (with_reducible refine (k3 _).mono ?_); rintro e w1 ⟨rfl, hb1⟩; have hb := (show Below WB.heap.size WB w1 by rw [HWB.out]; exact hb1); clear hb1; have B1 := Lib.hid (B0.out.trans (hb.mono B0.out.size)); have HX1 := Lib.hid (HX0.out.below hb); obtain ⟨⟨x0, x1, x2, x3⟩, ⟨x4, x5, x6, x7⟩, x8, x9, x10, x11⟩ := HX1.out.part; clear hb; clear x0 x1 x2 x3 x4 x5 x6 x7 x8 x9 x10 x11; have B2 := Lib.hid (below_alloc B1.out B1.out.size (.cells #[.int .i64 p0, .int .i64 p1, .int .i64 p2, .int .i64 p3] 23)); have HX2 := Lib.hid (HX1.out.alloc (.cells #[.int .i64 p0, .int .i64 p1, .int .i64 p2, .int .i64 p3] 23)); have HP2 := Lib.hid (Blk.new w1 23 #[.int .i64 p0, .int .i64 p1, .int .i64 p2, .int .i64 p3]); obtain ⟨⟨x0, x1, x2, x3⟩, ⟨x4, x5, x6, x7⟩, x8, x9, x10, x11⟩ := HX2.out.part; obtain ⟨p0, p1, p2, p3⟩ := HP2.out.four) | (go_at_call 14; (with_reducible refine (k4 _).mono ?_); rintro e w3 ⟨rfl, hb3⟩; clear x0 x1 x2 x3 x4 x5 x6 x7 x8 x9 x10 x11 p0 p1 p2 p3; have B3 := Lib.hid (B2.out.trans (hb3.mono B2.out.size)); have HX3 := Lib.hid (HX2.out.below hb3); have HP3 := Lib.hid (HP2.out.below hb3); obtain ⟨⟨x0, x1, x2, x3⟩, ⟨x4, x5, x6, x7⟩, x8, x9, x10, x11⟩ := HX3.out.part; obtain ⟨p0, p1, p2, p3⟩ := HP3.out.four; clear hb3; clear x0 x1 x2 x3 x4 x5 x6 x7 x8 x9 x10 x11 p0 p1 p2 p3; have B4 := Lib.hid (below_alloc B3.out B3.out.size (.cells #[.int .i64 p0, .int .i64 p1, .int .i64 p2, .int .i64 p3] 23)); have HX4 := Lib.hid (HX3.out.alloc (.cells #[.int .i64 p0, .int .i64 p1, .int .i64 p2, .int .i64 p3] 23)); have HP4 := Lib.hid (HP3.out.alloc (.cells #[.int .i64 p0, .int .i64 p1, .int .i64 p2, .int .i64 p3] 23)); have HQ4 := Lib.hid (Blk.new w3 23 #[.int .i64 p0, .int .i64 p1, .int .i64 p2, .int .i64 p3]); obtain ⟨⟨x0, x1, x2, x3⟩, ⟨x4, x5, x6, x7⟩, x8, x9, x10, x11⟩ := HX4.out.part; obtain ⟨p0, p1, p2, p3⟩ := HP4.out.four; obtain ⟨q0, q1, q2, q3⟩ := HQ4.out.four) | (go_at_call 12; (with_reducible refine (ke _).mono ?_); rintro e w5 ⟨rfl, hb5⟩; have B5 := Lib.hid (B4.out.trans (hb5.mono B4.out.size)); clear hb5) | fail)
  go_ret
  exact ⟨rfl, B5.out⟩

set_option maxRecDepth 100000 in
theorem lifted (os : Os) (started : os.Started) (H : Type) (enc : TypeId × Value → H) :
    ReturnsInHanded {} Try.checked os 4 .any (Rows.partitionBandsSpec.pre6 enc Try.prog Try.f4 Rows.partitionBandsRow.domain false) (Rows.partitionBandsSpec.post enc Try.prog Try.f4 false true false false) := by
  refine returnsInHanded_of_change (C := Try.checked) own started (by kernel_rfl) Try.func4
    (ChangeSpec.witness6 (enc := enc) (C := Try.checked) false ⟨#[], #[.agg #[.int .i64 0, .int .i64 0, .int .i64 0, .int .i64 0, .int .i64 0, .int .i64 0, .int .i64 0, .int .i64 0, .int .i64 0, .int .i64 0, .int .i64 0, .int .i64 0]], []⟩ 8 (by kernel_rfl) (by kernel_rfl) (by kernel_rfl) (by kernel_rfl)) ?_
  intro W base args ds gs before hval0 hW _ _
  have hval : ∀ (j : Nat) t v, Try.f4.params[j]? = some t → args[j]? = some v → Value.okWide Try.prog W .any base t v := hval0
  have hW' := hW
  obtain ⟨p, q, hA0, hV, rfl, _, _⟩ := hW
  have hA : DataW.TrodAll enc Try.prog W 0 (fun _ => true) true Try.f4.params.toList args.toList ds p := hA0
  rw [Try.params4] at hA hval
  obtain ⟨v0, vs0, d0, ds0, p0, q0, hargs, rfl, rfl, h0, r0⟩ := trodAll_cons hA
  obtain ⟨rfl, rfl, rfl⟩ := trodAll_nil r0
  obtain rfl : args = #[v0] := by cases args; simp_all
  obtain ⟨rfl, rfl⟩ := trodVars_none hV
  clear hA0 hval0
  simp only [List.append_nil] at hW'
  have l0 : ∀ x ∈ p0, x.block < W.heap.size := fun x hx => hW'.lt x (by simp [hx])
  obtain ⟨a0, b0, c0, e0, a2, b2, c2, e2, o0, px0, py0, id0, rfl⟩ := open_part (hval 0 32 v0 rfl rfl) h0
  refine (walk a0 b0 c0 e0 a2 b2 c2 e2 o0 px0 py0 id0 W).mono fun e W' ⟨he, hb⟩ => ?_
  subst he
  exact ⟨_, rfl, post_low (pa := p0 ++ ([])) (pv := []) hW' (fun _ _ _ => (trodAll_cons_mk (shut_bool Try.underlying4 _) trodAll_mk0)) (fun sp hsp => (trodAll_cons_mk (trod_low laidOut (by kernel_rfl) (of_decide_eq_true (by kernel_rfl)) h0 hb l0 (fun x hx => hsp x (by simp [hx]))) trodAll_mk0)) (fun _ _ => rfl) (by simp) hb (ok_one (by kernel_rfl) rfl (okWide_bool_mk Try.underlying4 _))⟩

theorem over : Rows.partitionBandsRow.holds Try.pinned (OpenSpec.ofChange Rows.partitionBandsSpec) :=
  OpenClaim.holds_of_wide 4 Try.f4 rfl rfl rfl rfl rfl rfl rfl ⟨rfl, rfl, rfl, rfl, rfl⟩ rfl rfl rfl rfl rfl (by kernel_rfl) Try.func4 (by kernel_rfl)
    (of_decide_eq_true (by kernel_rfl)) (by unfold Func.isWrapper; first | (rw [if_pos (by decide +kernel)]; kernel_rfl) | (rw [if_neg (by decide +kernel)]; exact ⟨rfl, rfl⟩))
    (fun os started H enc _ => lifted os started H enc)

theorem proved : Rows.PartitionBandsSaid :=
  over
#print axioms proved
end Go.Proofs.Ytcdjkofgnelgeaa.partitionBands
