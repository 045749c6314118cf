/-
  For all numbers of passes and planes, all orientations, and a nil or a zero block, the statement DecpassNobody returns true; they read afterwards as before.
  Conditions: none beyond those of the given statement (the listed variables are tied by the card).
-/
import Derived.Test.YtbhjapgioaiocaaDoorFb
import Derived.Test.YtbhjapgioaiocaaDoorMH
import Derived.Test.YtbhjapgioaiocaaDoorTie
import Derived.Test.YtbhjapgioaiocaaDoorCards
import Derived.LaidMore
import Derived.Lay
import Derived.SevenTiedAt
import Derived.Stop.Joined
set_option maxRecDepth 100000
namespace Go.Proofs.YtbhjapgioaiocaaDoor.decpassNobody
open Go.ChangeShapes Go.WideShapes Go.ChangeAt Go.RowKit Go.Joins Go.Deep

set_option maxHeartbeats 4000000 in
theorem walk (pass planes o : Int) (z : Bool) (W : World) (hT : Cx.Tabs W) : Calls Tryd.prog 14 #[.int .i64 pass, .int .i64 planes, .int .i64 o, .bool z] W fun e w' => e = .returned (.bool true) ∧ Below W.heap.size W w' := by
  have hE := fun {w1 : World} (hb : Below W.heap.size W w1) => ex16_c w1 (hT.below hb)
  have kw : ∀ W : World, Calls Tryd.prog 39 #[.int .i64 2, .int .i64 2] W fun e w' => ∃ A V S T R, e = .returned (.tuple #[.pointer (some ⟨A, 0, none⟩), .int .i64 0]) ∧ Cb w' W.heap.size A V S T R 2 2 St.zero ∧ Below W.heap.size W w' := fun W => new_yes 2 2 (by decide) W
  have k30 := fun (W1 : World) (B A V S T R : Nat) (H : Cb W1 B A V S T R 2 2 St.zero) => drun_0 H pass planes o mo0
  unfold Mo.val mo0 at k30
  dsimp only at k30
  clear hT
  cases z with
  | false =>
    have hn : NoB none W := noB_nil W
    have kr := fun {w1 : World} (hb : Below W.heap.size W w1) => drun_n (hn.step hb) pass planes o mo0 38 #[]
    have kr0 := fun {w1 : World} (hb : Below W.heap.size W w1) => drun_n0 (hn.step hb) pass planes o mo0
    have k1 := kr (Below.refl _ _)
    unfold Mo.val mo0 at kr0 k1
    dsimp only at kr0 k1
    go_enter Tryd.func14, Tryd.ntmps14
    go_wp2_with (first | (go_at_call 37; first | ((with_reducible refine k1.mono ?_); rintro e w1 ⟨rfl, hb⟩; have HB := Lib.hid hb; have k2 := kr0 hb; clear hb) | ((with_reducible refine k2.mono ?_); rintro e w2 ⟨rfl, hb⟩; have HB2 := Lib.hid (below_call HB.out hb); clear hb) | ((with_reducible refine k3.mono ?_); rintro e w4 ⟨rfl, hb⟩; have HB4 := Lib.hid (below_call HB3.out hb); clear hb)) | (go_at_call 39; (with_reducible refine (kw _).mono ?_); rintro e w3 ⟨A, V, S, T, R, rfl, hC, hB⟩; have HB3 := Lib.hid (below_call HB2.out hB); have k3 := k30 _ _ _ _ _ _ _ hC; clear hC hB) | (go_at_call 31; (with_reducible refine (hE (HB4.out)).mono ?_); rintro e w5 ⟨rfl, hb⟩; have HB5 := Lib.hid (below_call (HB4.out) hb); clear hb))
    go_ret
    exact ⟨rfl, HB5.out⟩
  | true =>
    have hal := below_alloc (Below.refl _ W) (.cells #[.int .i64 0, .int .i64 0, .slice none 0 0, .slice none 0 0, .slice none 0 0, .slice none 0 0, .pointer none] 60)
    have hn : NoB (some ⟨W.heap.size, 0, none⟩) (W.alloc (.cells #[.int .i64 0, .int .i64 0, .slice none 0 0, .slice none 0 0, .slice none 0 0, .slice none 0 0, .pointer none] 60)) := noB_zero ((Blk.new W 60 #[.int .i64 0, .int .i64 0, .slice none 0 0, .slice none 0 0, .slice none 0 0, .slice none 0 0, .pointer none]).cell 6)
    have HA := Lib.hid hal
    clear hal
    have kr := fun {w1 : World} (hb : Below (W.alloc (.cells #[.int .i64 0, .int .i64 0, .slice none 0 0, .slice none 0 0, .slice none 0 0, .slice none 0 0, .pointer none] 60)).heap.size (W.alloc (.cells #[.int .i64 0, .int .i64 0, .slice none 0 0, .slice none 0 0, .slice none 0 0, .slice none 0 0, .pointer none] 60)) w1) => drun_n (hn.step hb) pass planes o mo0 38 #[]
    have kr0 := fun {w1 : World} (hb : Below (W.alloc (.cells #[.int .i64 0, .int .i64 0, .slice none 0 0, .slice none 0 0, .slice none 0 0, .slice none 0 0, .pointer none] 60)).heap.size (W.alloc (.cells #[.int .i64 0, .int .i64 0, .slice none 0 0, .slice none 0 0, .slice none 0 0, .slice none 0 0, .pointer none] 60)) w1) => drun_n0 (hn.step hb) pass planes o mo0
    have k1 := kr (Below.refl _ _)
    unfold Mo.val mo0 at kr0 k1
    dsimp only at kr0 k1
    go_enter Tryd.func14, Tryd.ntmps14
    go_wp2_with (first | (go_at_call 37; first | ((with_reducible refine k1.mono ?_); rintro e w1 ⟨rfl, hb⟩; have HB := Lib.hid hb; have k2 := kr0 hb; clear hb) | ((with_reducible refine k2.mono ?_); rintro e w2 ⟨rfl, hb⟩; have HB2 := Lib.hid (below_call HB.out hb); clear hb) | ((with_reducible refine k3.mono ?_); rintro e w4 ⟨rfl, hb⟩; have HB4 := Lib.hid (below_call HB3.out hb); clear hb)) | (go_at_call 39; (with_reducible refine (kw _).mono ?_); rintro e w3 ⟨A, V, S, T, R, rfl, hC, hB⟩; have HB3 := Lib.hid (below_call HB2.out hB); have k3 := k30 _ _ _ _ _ _ _ hC; clear hC hB) | (go_at_call 31; (with_reducible refine (hE (below_call HA.out HB4.out)).mono ?_); rintro e w5 ⟨rfl, hb⟩; have HB5 := Lib.hid (below_call (below_call HA.out HB4.out) hb); clear hb))
    go_ret
    exact ⟨rfl, HB5.out⟩

set_option maxRecDepth 100000 in
theorem lifted (os : Os) (started : os.Started) (H : Type) (enc : TypeId × Value → H) :
    ReturnsInHanded {} Tryd.checked os 14 .any (fun w args => (Rows.decpassNobodySpec.pre enc Tryd.prog Tryd.f14 Rows.decpassNobodyRow.domain false w args ∧ laidMetH Tryd.prog Rows.decpassNobodyRow.laid w) ∧ sizedMet enc Tryd.prog Tryd.f14 (OpenSpec.ofChange Rows.decpassNobodySpec) false w args)
      (Rows.decpassNobodySpec.post enc Tryd.prog Tryd.f14 false true false false) := by
  refine returnsInHanded_of_change_and (C := Tryd.checked) (X := fun w _ => laidMetH Tryd.prog Rows.decpassNobodyRow.laid w) (fun _ _ _ hh h => h.of_heap hh) own started (by kernel_rfl) Tryd.func14
    (ChangeSpec.witness_shaped (enc := enc) (C := Tryd.checked) (os := os) (X := fun w _ => laidMetH Tryd.prog Rows.decpassNobodyRow.laid w) false (World.laidAll Tryd.prog os Rows.decpassNobodyRow.laid) #[.int .i64 0, .int .i64 0, .int .i64 0, .bool false] 8 (World.laidAll_os _ _ _)
      (World.shaped_of_ZipB (by kernel_rfl) (by kernel_rfl)) (by kernel_rfl) (by kernel_rfl) (by kernel_rfl)
      (by rw [MakeChecks.laidMetH_plain _ _ _ (by kernel_rfl)]; exact laidMet_laidAll _ (by kernel_rfl) (by kernel_rfl))) ?_
  intro W base args ds gs before hval0 hW _ _ hL _
  have hval : ∀ (j : Nat) t v, Tryd.f14.params[j]? = some t → args[j]? = some v → Value.okWide Tryd.prog W .any base t v := hval0
  have hT : Cx.Tabs W := Cx.tabs_of_laid hL
  have hW' := hW
  obtain ⟨p, q, hA0, hV, rfl, _, _⟩ := hW
  have hA : DataW.TrodAll enc Tryd.prog W 0 (fun _ => true) true Tryd.f14.params.toList args.toList ds p := hA0
  rw [Tryd.params14] at hA hval
  obtain ⟨v0, vs0, d0, ds0, p0, q0, hargs, rfl, rfl, h0, r0⟩ := trodAll_cons hA
  obtain ⟨v1, vs1, d1, ds1, p1, q1, rfl, rfl, rfl, h1, r1⟩ := trodAll_cons r0
  obtain ⟨v2, vs2, d2, ds2, p2, q2, rfl, rfl, rfl, h2, r2⟩ := trodAll_cons r1
  obtain ⟨v3, vs3, d3, ds3, p3, q3, rfl, rfl, rfl, h3, r3⟩ := trodAll_cons r2
  obtain ⟨rfl, rfl, rfl⟩ := trodAll_nil r3
  obtain rfl : args = #[v0, v1, v2, v3] := by cases args; simp_all
  obtain ⟨rfl, rfl⟩ := trodVars_none hV
  clear hA0 hval0
  simp only [List.append_nil] at hW'
  have l0 : ∀ x ∈ p0, x.block < W.heap.size := fun x hx => hW'.lt x (by simp [hx])
  have l1 : ∀ x ∈ p1, x.block < W.heap.size := fun x hx => hW'.lt x (by simp [hx])
  have l2 : ∀ x ∈ p2, x.block < W.heap.size := fun x hx => hW'.lt x (by simp [hx])
  have l3 : ∀ x ∈ p3, x.block < W.heap.size := fun x hx => hW'.lt x (by simp [hx])
  obtain ⟨i0, rfl, _, _, wi0⟩ := open_int Tryd.underlying3 (hval 0 3 v0 rfl rfl) h0
  obtain ⟨i1, rfl, _, _, wi1⟩ := open_int Tryd.underlying3 (hval 1 3 v1 rfl rfl) h1
  obtain ⟨i2, rfl, _, _, wi2⟩ := open_int Tryd.underlying24 (hval 2 24 v2 rfl rfl) h2
  obtain ⟨z3, rfl, _⟩ := open_bool Tryd.underlying4 (hval 3 4 v3 rfl rfl) h3
  refine (walk i0 i1 i2 z3 W hT).mono fun e W' ⟨he, hb⟩ => ?_
  subst he
  exact ⟨_, rfl, post_low (pa := p0 ++ (p1 ++ (p2 ++ (p3 ++ ([]))))) (pv := []) hW' (fun _ _ _ => (trodAll_cons_mk (shut_bool Tryd.underlying4 _) trodAll_mk0)) (fun sp hsp => (trodAll_cons_mk (trod_low laidOut (by kernel_rfl) (of_decide_eq_true (by kernel_rfl)) h0 hb l0 (fun x hx => hsp x (by simp [hx]))) (trodAll_cons_mk (trod_low laidOut (by kernel_rfl) (of_decide_eq_true (by kernel_rfl)) h1 hb l1 (fun x hx => hsp x (by simp [hx]))) (trodAll_cons_mk (trod_low laidOut (by kernel_rfl) (of_decide_eq_true (by kernel_rfl)) h2 hb l2 (fun x hx => hsp x (by simp [hx]))) (trodAll_cons_mk (trod_low laidOut (by kernel_rfl) (of_decide_eq_true (by kernel_rfl)) h3 hb l3 (fun x hx => hsp x (by simp [hx]))) trodAll_mk0))))) (fun _ _ => rfl) (by simp) hb (ok_one (by kernel_rfl) rfl (okWide_bool_mk Tryd.underlying4 _))⟩

theorem over : Rows.decpassNobodyRow.holds Tryd.pinned (OpenSpec.ofChange Rows.decpassNobodySpec) :=
  OpenClaim.holds_of_wide 14 Tryd.f14 rfl rfl rfl rfl rfl rfl rfl ⟨rfl, rfl, rfl, rfl, rfl⟩ rfl rfl rfl rfl rfl (by kernel_rfl) Tryd.func14 (by kernel_rfl)
    (of_decide_eq_true (by kernel_rfl)) (by unfold Func.isWrapper; first | (rw [if_pos (by decide +kernel)]; kernel_rfl) | (rw [if_neg (by decide +kernel)]; exact ⟨rfl, rfl⟩))
    (fun os started H enc _ => lifted os started H enc)
theorem proved : Rows.DecpassNobodyCardSaid :=
  Claim7.holds_tied_plain_at .later [] [.data, .data, .data] true Rows.decpassNobodyCard.stood.harness false over (fun _ h => by cases h) (by kernel_rfl) (fun _ h => by cases h) decpassNobody_row_tie rfl ⟨rfl, rfl⟩ (by kernel_rfl) rfl
    (fun f fn hf hfn => by
      obtain rfl : f = 14 := Option.some.inj ((show Tryd.prog.funcNamed Rows.decpassNobodyRow.func = some 14 by kernel_rfl).symm.trans hf) |>.symm
      obtain rfl : fn = Tryd.f14 := (Option.some.inj (Tryd.func14.symm.trans hfn)).symm
      exact ⟨by kernel_rfl, fun j t ht => by
        rw [Tryd.params14] at ht
        have hm : t ∈ [3, 3, 24, 4] := by simpa using Array.mem_of_getElem? ht
        have hall : ([3, 3, 24, 4].all fun u => !Tryd.prog.wantsStandIn u) = true := by kernel_rfl
        exact (show Tryd.prog.wantsStandIn t = false by simpa using List.all_eq_true.1 hall t hm)⟩)
    (by kernel_rfl)
#print axioms proved
end Go.Proofs.YtbhjapgioaiocaaDoor.decpassNobody
