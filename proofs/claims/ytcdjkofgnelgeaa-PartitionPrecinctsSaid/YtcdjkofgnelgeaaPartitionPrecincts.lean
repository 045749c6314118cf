/-
  For all rectangles, exponents and numbers the statement PartitionPrecincts returns true.
  Conditions: none beyond those of the given statement.
-/
import Derived.Test.YtcdjkofgnelgeaaPv
set_option maxRecDepth 100000
namespace Go.Proofs.Ytcdjkofgnelgeaa.partitionPrecincts
open Go.ChangeShapes Go.WideShapes Go.ChangeAt Go.RowKit Go.Joins Go.Deep

set_option maxHeartbeats 4000000 in
theorem walk (a b c d px py idx : Int) (W : World) : Calls Try.prog 3 #[.agg #[.int .i64 a, .int .i64 b, .int .i64 c, .int .i64 d], .int .i64 px, .int .i64 py, .int .i64 idx] W fun e w' => e = .returned (.bool true) ∧ Below W.heap.size W w' := by
  obtain ⟨WB, hWB⟩ : ∃ ww, ww = (W.alloc (.cells #[.int .i64 a, .int .i64 b, .int .i64 c, .int .i64 d] 23)) := ⟨_, rfl⟩
  have hb0 : Below W.heap.size W WB := by rw [hWB]; exact (below_alloc (Below.refl _ W) (Nat.le_refl _) _)
  have B0 := Lib.hid hb0
  have hX : Blk WB (W.heap.size) 23 #[.int .i64 a, .int .i64 b, .int .i64 c, .int .i64 d] := by
    have := Blk.new (W) 23 #[.int .i64 a, .int .i64 b, .int .i64 c, .int .i64 d]
    rw [hWB]
    exact (show Blk _ (W.heap.size) _ _ by simpa using this)
  have HX0 := Lib.hid hX
  have HWB := Lib.hid hWB
  clear hb0 hWB hX
  have k1 := fun W1 : World => precincts_c a b c d px py W1
  have k2 := fun W1 : World => rprecincts_c a b c d px py W1
  have k3 := fun W1 : World => precinct_c a b c d px py idx W1
  have k4 := fun W1 : World => rprecinct_c a b c d px py idx W1
  have ke := fun W1 : World => ex22_c W1
  have heq := eqR
  have hself := Pl.eq_self
  generalize Pl.colsI a b c d px py 12 = CI at *
  generalize Pl.rowsI a b c d px py 12 = RI at *
  generalize decide (pOk a b c d px py idx) = ok at *
  generalize precR a b c d px py idx = PP at *
  obtain ⟨p0, p1, p2, p3⟩ := PP
  dsimp only at k3 k4
  have e1 : (CI == CI) = true := by simp
  have e2 : (RI == RI) = true := by simp
  have e3 : (ok == ok) = true := by simp
  go_enter Try.func3, Try.ntmps3
  go_wp2_with (first | (go_at_call 8; (with_reducible refine (k1 _).mono ?_); rintro e w1 ⟨rfl, hb1⟩; have hb := (show Below WB.heap.size WB w1 by rw [HWB.out]; exact hb1); clear hb1; have B1 := Lib.hid (B0.out.trans (hb.mono B0.out.size)); have HX1 := Lib.hid (HX0.out.below hb); obtain ⟨x0, x1, x2, x3⟩ := HX1.out.four; clear hb) | (go_at_call 9; (with_reducible refine (k2 _).mono ?_); rintro e w2 ⟨rfl, hb2⟩; clear x0 x1 x2 x3; have B2 := Lib.hid (B1.out.trans (hb2.mono B1.out.size)); have HX2 := Lib.hid (HX1.out.below hb2); obtain ⟨x0, x1, x2, x3⟩ := HX2.out.four; clear hb2) | (go_at_call 10; (with_reducible refine (k3 _).mono ?_); rintro e w3 ⟨rfl, hb3⟩; clear x0 x1 x2 x3; have B3 := Lib.hid (B2.out.trans (hb3.mono B2.out.size)); have HX3 := Lib.hid (HX2.out.below hb3); obtain ⟨x0, x1, x2, x3⟩ := HX3.out.four; clear hb3; clear x0 x1 x2 x3; have B4 := Lib.hid (below_alloc B3.out B3.out.size (.cells #[.int .i64 p0, .int .i64 p1, .int .i64 p2, .int .i64 p3] 23)); have HX4 := Lib.hid (HX3.out.alloc (.cells #[.int .i64 p0, .int .i64 p1, .int .i64 p2, .int .i64 p3] 23)); have HP4 := Lib.hid (Blk.new w3 23 #[.int .i64 p0, .int .i64 p1, .int .i64 p2, .int .i64 p3]); obtain ⟨x0, x1, x2, x3⟩ := HX4.out.four; obtain ⟨p0, p1, p2, p3⟩ := HP4.out.four) | (go_at_call 11; (with_reducible refine (k4 _).mono ?_); rintro e w5 ⟨rfl, hb5⟩; clear x0 x1 x2 x3 p0 p1 p2 p3; have B5 := Lib.hid (B4.out.trans (hb5.mono B4.out.size)); have HX5 := Lib.hid (HX4.out.below hb5); have HP5 := Lib.hid (HP4.out.below hb5); obtain ⟨x0, x1, x2, x3⟩ := HX5.out.four; obtain ⟨p0, p1, p2, p3⟩ := HP5.out.four; clear hb5; clear x0 x1 x2 x3 p0 p1 p2 p3; have B6 := Lib.hid (below_alloc B5.out B5.out.size (.cells #[.int .i64 p0, .int .i64 p1, .int .i64 p2, .int .i64 p3] 23)); have HX6 := Lib.hid (HX5.out.alloc (.cells #[.int .i64 p0, .int .i64 p1, .int .i64 p2, .int .i64 p3] 23)); have HP6 := Lib.hid (HP5.out.alloc (.cells #[.int .i64 p0, .int .i64 p1, .int .i64 p2, .int .i64 p3] 23)); have HQ6 := Lib.hid (Blk.new w5 23 #[.int .i64 p0, .int .i64 p1, .int .i64 p2, .int .i64 p3]); obtain ⟨x0, x1, x2, x3⟩ := HX6.out.four; obtain ⟨p0, p1, p2, p3⟩ := HP6.out.four; obtain ⟨q0, q1, q2, q3⟩ := HQ6.out.four) | (go_at_call 12; (with_reducible refine (ke _).mono ?_); rintro e w7 ⟨rfl, hb7⟩; have B7 := Lib.hid (B6.out.trans (hb7.mono B6.out.size)); clear hb7) | fail)
  go_ret
  exact ⟨rfl, B7.out⟩

set_option maxRecDepth 100000 in
theorem lifted (os : Os) (started : os.Started) (H : Type) (enc : TypeId × Value → H) :
    ReturnsInHanded {} Try.checked os 3 .any (Rows.partitionPrecinctsSpec.pre6 enc Try.prog Try.f3 Rows.partitionPrecinctsRow.domain false) (Rows.partitionPrecinctsSpec.post enc Try.prog Try.f3 false true false false) := by
  refine returnsInHanded_of_change (C := Try.checked) own started (by kernel_rfl) Try.func3
    (ChangeSpec.witness6 (enc := enc) (C := Try.checked) false ⟨#[], #[.agg #[.int .i64 0, .int .i64 0, .int .i64 0, .int .i64 0], .int .i64 0, .int .i64 0, .int .i64 0], []⟩ 8 (by kernel_rfl) (by kernel_rfl) (by kernel_rfl) (by kernel_rfl)) ?_
  intro W base args ds gs before hval0 hW _ _
  have hval : ∀ (j : Nat) t v, Try.f3.params[j]? = some t → args[j]? = some v → Value.okWide Try.prog W .any base t v := hval0
  have hW' := hW
  obtain ⟨p, q, hA0, hV, rfl, _, _⟩ := hW
  have hA : DataW.TrodAll enc Try.prog W 0 (fun _ => true) true Try.f3.params.toList args.toList ds p := hA0
  rw [Try.params3] at hA hval
  obtain ⟨v0, vs0, d0, ds0, p0, q0, hargs, rfl, rfl, h0, r0⟩ := trodAll_cons hA
  obtain ⟨v1, vs1, d1, ds1, p1, q1, rfl, rfl, rfl, h1, r1⟩ := trodAll_cons r0
  obtain ⟨v2, vs2, d2, ds2, p2, q2, rfl, rfl, rfl, h2, r2⟩ := trodAll_cons r1
  obtain ⟨v3, vs3, d3, ds3, p3, q3, rfl, rfl, rfl, h3, r3⟩ := trodAll_cons r2
  obtain ⟨rfl, rfl, rfl⟩ := trodAll_nil r3
  obtain rfl : args = #[v0, v1, v2, v3] := by cases args; simp_all
  obtain ⟨rfl, rfl⟩ := trodVars_none hV
  clear hA0 hval0
  simp only [List.append_nil] at hW'
  have l0 : ∀ x ∈ p0, x.block < W.heap.size := fun x hx => hW'.lt x (by simp [hx])
  have l1 : ∀ x ∈ p1, x.block < W.heap.size := fun x hx => hW'.lt x (by simp [hx])
  have l2 : ∀ x ∈ p2, x.block < W.heap.size := fun x hx => hW'.lt x (by simp [hx])
  have l3 : ∀ x ∈ p3, x.block < W.heap.size := fun x hx => hW'.lt x (by simp [hx])
  obtain ⟨a0, b0, c0, e0, rfl, _, _, _, _⟩ := open_rect (hval 0 23 v0 rfl rfl) h0
  obtain ⟨i1, rfl, _, _, wi1⟩ := open_int Try.underlying3 (hval 1 3 v1 rfl rfl) h1
  obtain ⟨i2, rfl, _, _, wi2⟩ := open_int Try.underlying3 (hval 2 3 v2 rfl rfl) h2
  obtain ⟨i3, rfl, _, _, wi3⟩ := open_int Try.underlying3 (hval 3 3 v3 rfl rfl) h3
  refine (walk a0 b0 c0 e0 i1 i2 i3 W).mono fun e W' ⟨he, hb⟩ => ?_
  subst he
  exact ⟨_, rfl, post_low (pa := p0 ++ (p1 ++ (p2 ++ (p3 ++ ([]))))) (pv := []) hW' (fun _ _ _ => (trodAll_cons_mk (shut_bool Try.underlying4 _) trodAll_mk0)) (fun sp hsp => (trodAll_cons_mk (trod_low laidOut (by kernel_rfl) (of_decide_eq_true (by kernel_rfl)) h0 hb l0 (fun x hx => hsp x (by simp [hx]))) (trodAll_cons_mk (trod_low laidOut (by kernel_rfl) (of_decide_eq_true (by kernel_rfl)) h1 hb l1 (fun x hx => hsp x (by simp [hx]))) (trodAll_cons_mk (trod_low laidOut (by kernel_rfl) (of_decide_eq_true (by kernel_rfl)) h2 hb l2 (fun x hx => hsp x (by simp [hx]))) (trodAll_cons_mk (trod_low laidOut (by kernel_rfl) (of_decide_eq_true (by kernel_rfl)) h3 hb l3 (fun x hx => hsp x (by simp [hx]))) trodAll_mk0))))) (fun _ _ => rfl) (by simp) hb (ok_one (by kernel_rfl) rfl (okWide_bool_mk Try.underlying4 _))⟩

theorem over : Rows.partitionPrecinctsRow.holds Try.pinned (OpenSpec.ofChange Rows.partitionPrecinctsSpec) :=
  OpenClaim.holds_of_wide 3 Try.f3 rfl rfl rfl rfl rfl rfl rfl ⟨rfl, rfl, rfl, rfl, rfl⟩ rfl rfl rfl rfl rfl (by kernel_rfl) Try.func3 (by kernel_rfl)
    (of_decide_eq_true (by kernel_rfl)) (by unfold Func.isWrapper; first | (rw [if_pos (by decide +kernel)]; kernel_rfl) | (rw [if_neg (by decide +kernel)]; exact ⟨rfl, rfl⟩))
    (fun os started H enc _ => lifted os started H enc)

theorem proved : Rows.PartitionPrecinctsSaid :=
  over
#print axioms proved
end Go.Proofs.Ytcdjkofgnelgeaa.partitionPrecincts
