/-
  For all coded blocks and modes the statement BlockencValidates returns true; they read afterwards as before.
  Conditions: none beyond those of the given statement (the listed variables are tied by the card).
-/
import Derived.Test.YtklchodbnjebnaaDoorNU
import Derived.Test.YtklchodbnjebnaaDoorTie
import Derived.Test.YtklchodbnjebnaaDoorCards
import Derived.LaidMore
import Derived.Lay
import Derived.SevenTiedAt
import Derived.Stop.Joined
set_option maxRecDepth 100000
namespace Go.Proofs.YtklchodbnjebnaaDoor.blockencValidates
open Go.ChangeShapes Go.WideShapes Go.ChangeAt Go.RowKit Go.Joins Go.Deep

theorem eight {w : World} {g : Nat} {pl : Int} {se sd : Option Addr} {a b me md9 : Nat} {mb mr ms mc my : Bool} (hX : Blk w g 25 #[.int .i64 pl, .slice se a me, .slice sd b md9]) {g2 : Nat} (hY : Blk w g2 27 #[.bool mb, .bool mr, .bool ms, .bool mc, .bool my]) :
    w.cell? ⟨g, 0, none⟩ = some (.int .i64 pl) ∧ w.cell? ⟨g, 1, none⟩ = some (.slice se a me) ∧ w.cell? ⟨g, 2, none⟩ = some (.slice sd b md9) ∧ w.cell? ⟨g2, 0, none⟩ = some (.bool mb) ∧ w.cell? ⟨g2, 1, none⟩ = some (.bool mr) ∧ w.cell? ⟨g2, 2, none⟩ = some (.bool ms) ∧ w.cell? ⟨g2, 3, none⟩ = some (.bool mc) ∧ w.cell? ⟨g2, 4, none⟩ = some (.bool my) := ⟨hX.cell 0, hX.cell 1, hX.cell 2, hY.cell 0, hY.cell 1, hY.cell 2, hY.cell 3, hY.cell 4⟩
set_option maxHeartbeats 8000000 in
theorem walk (v : Value) (c : CoV) (m : Mo) (W : World) (hT : Cx.Tabs W) (hC : CoR W v c) : Calls Tryd.prog 3 #[v, m.val] W fun e w' => e = .returned (.bool true) ∧ Below W.heap.size W w' := by
  have hA := fun {w1 : World} (hb : Below W.heap.size W w1) => awake17_c w1 (hT.below hb)
  have hF := fun {w1 : World} (hb : Below W.heap.size W w1) => few17_c w1 v c (hC.cv.call hb)
  obtain ⟨pl, E, D⟩ := c
  have hcv := hC.cv
  obtain ⟨se, me, sd, md9, rfl, hE, hD, hme, hmd, hen, hdn⟩ := hcv
  obtain ⟨mb, mr, ms, mc, my⟩ := m
  dsimp only at *
  unfold Mo.val
  dsimp only
  obtain ⟨WA, hWA⟩ : ∃ x, x = (W.alloc (.cells #[.int .i64 pl, .slice se E.length me, .slice sd D.length md9] 25)).alloc (.cells #[.bool mb, .bool mr, .bool ms, .bool mc, .bool my] 27) := ⟨_, rfl⟩
  have hB : Below W.heap.size W WA := by rw [hWA]; exact below_alloc (below_alloc (Below.refl _ W) _) _
  have hX : Blk WA W.heap.size 25 #[.int .i64 pl, .slice se E.length me, .slice sd D.length md9] := by rw [hWA]; exact (Blk.new W _ _).alloc _
  have hY : Blk WA (W.heap.size + 1) 27 #[.bool mb, .bool mr, .bool ms, .bool mc, .bool my] := by
    have := Blk.new (W.alloc (.cells #[.int .i64 pl, .slice se E.length me, .slice sd D.length md9] 25)) 27 #[.bool mb, .bool mr, .bool ms, .bool mc, .bool my]
    rw [hWA]; simpa using this
  have HX := Lib.hid hX
  have HY := Lib.hid hY
  have HB := Lib.hid hB
  have HWA := Lib.hid hWA
  have HCR := Lib.hid hC
  have kf := hF hB
  rw [hWA] at kf
  have HAW := Lib.hid (fun (w1 : World) (hb : Below W.heap.size W w1) => hA hb)
  clear hA hF hT hC hB hX hY hWA
  by_cases hf : E.length ≤ 300 ∧ D.length ≤ 20000
  · rw [decide_eq_true hf.1, decide_eq_true hf.2] at kf
    have kv := fun (w1 : World) (hb : Below W.heap.size W w1) => bvalid_c pl E se me sd D.length md9 ⟨mb, mr, ms, mc, my⟩ w1 (hE.below hb (Nat.le_refl _)) (by omega)
    have kz := fun (w1 : World) (hb : Below W.heap.size W w1) => zvalid_c pl E se me sd D.length md9 ⟨mb, mr, ms, mc, my⟩ w1 (hE.below hb (Nat.le_refl _)) (by omega)
    unfold Mo.val VaG at kv kz
    dsimp only at kv kz
    generalize vaE pl E D.length = va at *
    have KV := Lib.hid kv
    have KZ := Lib.hid kz
    clear kv kz hE hD hme hmd hen hdn hf
    go_enter Tryd.func3, Tryd.ntmps3
    go_wp2_with (first | (go_at_call 8; (with_reducible refine kf.mono ?_); rintro e w1 ⟨rfl, hb⟩; have B1 := Lib.hid (show Below WA.heap.size WA w1 by rw [HWA.out]; exact hb); have W1 := Lib.hid (below_call (below_call HB.out B1.out) (Below.refl _ _).drew); have x0 := (HX.out.below B1.out).cell 0; have x1 := (HX.out.below B1.out).cell 1; have x2 := (HX.out.below B1.out).cell 2; obtain ⟨m0, m1, m2, m3, m4⟩ := md (HY.out.below B1.out); have kv := KV.out _ W1.out; clear hb))
    have X1 := Lib.hid ((HX.out.below B1.out).drew)
    have Y1 := Lib.hid ((HY.out.below B1.out).drew)
    have z0 := eight X1.out Y1.out
    go_region_held3 (fun w' => w'.cell? ⟨W.heap.size, 0, none⟩ = some (.int .i64 pl) ∧ w'.cell? ⟨W.heap.size, 1, none⟩ = some (.slice se E.length me) ∧ w'.cell? ⟨W.heap.size, 2, none⟩ = some (.slice sd D.length md9) ∧ w'.cell? ⟨W.heap.size + 1, 0, none⟩ = some (.bool mb) ∧ w'.cell? ⟨W.heap.size + 1, 1, none⟩ = some (.bool mr) ∧ w'.cell? ⟨W.heap.size + 1, 2, none⟩ = some (.bool ms) ∧ w'.cell? ⟨W.heap.size + 1, 3, none⟩ = some (.bool mc) ∧ w'.cell? ⟨W.heap.size + 1, 4, none⟩ = some (.bool my))
      (first | (with_reducible exact z0) | (with_reducible exact z1) | (with_reducible exact z2) | (with_reducible exact z3) | fail)
      (first | (go_simp; go_at_call 10; (with_reducible refine kv.mono ?_); rintro e w5 ⟨rfl, hb5⟩; have W5 := Lib.hid (below_call W1.out hb5); have X5 := Lib.hid (X1.out.below hb5); have Y5 := Lib.hid (Y1.out.below hb5); have z1 := eight X5.out Y5.out; have kz := KZ.out _ W5.out; clear hb5) | (go_simp; go_at_call 11; (with_reducible refine kz.mono ?_); rintro e w6 ⟨rfl, hb6⟩; have W6 := Lib.hid (below_call W5.out hb6); have X6 := Lib.hid (X5.out.below hb6); have Y6 := Lib.hid (Y5.out.below hb6); have z2 := eight X6.out Y6.out; have ka := HAW.out _ W6.out; clear hb6) | (go_simp; go_at_call 9; (with_reducible refine ka.mono ?_); rintro e w7 ⟨rfl, hb7⟩; have W7 := Lib.hid (below_call W6.out hb7); have z3 := eight (X6.out.below hb7) (Y6.out.below hb7); clear hb7) | fail)
    all_goals
      go_wp2_with fail
      go_ret
      exact ⟨rfl, W7.out⟩
  · have e : (decide (E.length ≤ 300) && decide (D.length ≤ 20000)) = false := by
      rcases Classical.not_and_iff_not_or_not.1 hf with h | h
      · rw [decide_eq_false h]; rfl
      · rw [decide_eq_false h]; simp
    rw [e] at kf
    clear hE hD hme hmd hen hdn hf e
    go_enter Tryd.func3, Tryd.ntmps3
    go_wp2_with (first | (go_at_call 8; (with_reducible refine kf.mono ?_); rintro e w1 ⟨rfl, hb⟩; have W1 := Lib.hid (below_call HB.out (show Below WA.heap.size WA w1 by rw [HWA.out]; exact hb)); have ka := HAW.out _ W1.out; clear hb) | (go_at_call 9; (with_reducible refine ka.mono ?_); rintro e w2 ⟨rfl, hb2⟩; have W2 := Lib.hid (below_call W1.out hb2); clear hb2))
    go_ret
    exact ⟨rfl, W2.out⟩

set_option maxRecDepth 100000 in
theorem lifted (os : Os) (started : os.Started) (H : Type) (enc : TypeId × Value → H) :
    ReturnsInHanded {} Tryd.checked os 3 .any (fun w args => (Rows.blockencValidatesSpec.pre enc Tryd.prog Tryd.f3 Rows.blockencValidatesRow.domain false w args ∧ laidMetH Tryd.prog Rows.blockencValidatesRow.laid w) ∧ sizedMet enc Tryd.prog Tryd.f3 (OpenSpec.ofChange Rows.blockencValidatesSpec) false w args)
      (Rows.blockencValidatesSpec.post enc Tryd.prog Tryd.f3 false true false false) := by
  refine returnsInHanded_of_change_and (C := Tryd.checked) (X := fun w _ => laidMetH Tryd.prog Rows.blockencValidatesRow.laid w) (fun _ _ _ hh h => h.of_heap hh) own started (by kernel_rfl) Tryd.func3
    (ChangeSpec.witness_shaped (enc := enc) (C := Tryd.checked) (os := os) (X := fun w _ => laidMetH Tryd.prog Rows.blockencValidatesRow.laid w) false (World.laidAll Tryd.prog os Rows.blockencValidatesRow.laid) #[.agg #[.int .i64 0, .slice none 0 0, .slice none 0 0], .agg #[.bool false, .bool false, .bool false, .bool false, .bool false]] 8 (World.laidAll_os _ _ _)
      (World.shaped_of_ZipB (by kernel_rfl) (by kernel_rfl)) (by kernel_rfl) (by kernel_rfl) (by kernel_rfl)
      (by rw [MakeChecks.laidMetH_plain _ _ _ (by kernel_rfl)]; exact laidMet_laidAll _ (by kernel_rfl) (by kernel_rfl))) ?_
  intro W base args ds gs before hval0 hW _ _ hL _
  have hval : ∀ (j : Nat) t v, Tryd.f3.params[j]? = some t → args[j]? = some v → Value.okWide Tryd.prog W .any base t v := hval0
  have hT : Cx.Tabs W := Cx.tabs_of_laid hL
  have hW' := hW
  obtain ⟨p, q, hA0, hV, rfl, _, _⟩ := hW
  have hA : DataW.TrodAll enc Tryd.prog W 0 (fun _ => true) true Tryd.f3.params.toList args.toList ds p := hA0
  rw [Tryd.params3] at hA hval
  obtain ⟨v0, vs0, d0, ds0, p0, q0, hargs, rfl, rfl, h0, r0⟩ := trodAll_cons hA
  obtain ⟨v1, vs1, d1, ds1, p1, q1, rfl, rfl, rfl, h1, r1⟩ := trodAll_cons r0
  obtain ⟨rfl, rfl, rfl⟩ := trodAll_nil r1
  obtain rfl : args = #[v0, v1] := by cases args; simp_all
  obtain ⟨rfl, rfl⟩ := trodVars_none hV
  clear hA0 hval0
  simp only [List.append_nil] at hW'
  have l0 : ∀ x ∈ p0, x.block < W.heap.size := fun x hx => hW'.lt x (by simp [hx])
  have l1 : ∀ x ∈ p1, x.block < W.heap.size := fun x hx => hW'.lt x (by simp [hx])
  obtain ⟨c0, hC0⟩ := open_coded (hval 0 25 v0 rfl rfl) h0
  obtain ⟨m1, rfl⟩ := open_mode9 (hval 1 27 v1 rfl rfl) h1
  refine (walk v0 c0 m1 W hT hC0).mono fun e W' ⟨he, hb⟩ => ?_
  subst he
  exact ⟨_, rfl, post_low (pa := p0 ++ (p1 ++ ([]))) (pv := []) hW' (fun _ _ _ => (trodAll_cons_mk (shut_bool Tryd.underlying4 _) trodAll_mk0)) (fun sp hsp => (trodAll_cons_mk (trod_low laidOut (by kernel_rfl) (of_decide_eq_true (by kernel_rfl)) h0 hb l0 (fun x hx => hsp x (by simp [hx]))) (trodAll_cons_mk (trod_low laidOut (by kernel_rfl) (of_decide_eq_true (by kernel_rfl)) h1 hb l1 (fun x hx => hsp x (by simp [hx]))) trodAll_mk0))) (fun _ _ => rfl) (by simp) hb (ok_one (by kernel_rfl) rfl (okWide_bool_mk Tryd.underlying4 _))⟩

theorem over : Rows.blockencValidatesRow.holds Tryd.pinned (OpenSpec.ofChange Rows.blockencValidatesSpec) :=
  OpenClaim.holds_of_wide 3 Tryd.f3 rfl rfl rfl rfl rfl rfl rfl ⟨rfl, rfl, rfl, rfl, rfl⟩ rfl rfl rfl rfl rfl (by kernel_rfl) Tryd.func3 (by kernel_rfl)
    (of_decide_eq_true (by kernel_rfl)) (by unfold Func.isWrapper; first | (rw [if_pos (by decide +kernel)]; kernel_rfl) | (rw [if_neg (by decide +kernel)]; exact ⟨rfl, rfl⟩))
    (fun os started H enc _ => lifted os started H enc)
theorem proved : Rows.BlockencValidatesCardSaid :=
  Claim7.holds_tied_plain_at .later [] [.data, .data, .data] true Rows.blockencValidatesCard.stood.harness false over (fun _ h => by cases h) (by kernel_rfl) (fun _ h => by cases h) blockencValidates_row_tie rfl ⟨rfl, rfl⟩ (by kernel_rfl) rfl
    (fun f fn hf hfn => by
      obtain rfl : f = 3 := Option.some.inj ((show Tryd.prog.funcNamed Rows.blockencValidatesRow.func = some 3 by kernel_rfl).symm.trans hf) |>.symm
      obtain rfl : fn = Tryd.f3 := (Option.some.inj (Tryd.func3.symm.trans hfn)).symm
      exact ⟨by kernel_rfl, fun j t ht => by
        rw [Tryd.params3] at ht
        have hm : t ∈ [25, 27] := by simpa using Array.mem_of_getElem? ht
        have hall : ([25, 27].all fun u => !Tryd.prog.wantsStandIn u) = true := by kernel_rfl
        exact (show Tryd.prog.wantsStandIn t = false by simpa using List.all_eq_true.1 hall t hm)⟩)
    (by kernel_rfl)
#print axioms proved
end Go.Proofs.YtklchodbnjebnaaDoor.blockencValidates
