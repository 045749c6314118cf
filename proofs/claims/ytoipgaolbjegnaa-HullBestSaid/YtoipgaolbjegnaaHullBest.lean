/-
  For all curves and prices the statement HullBest returns true; they read afterwards as before.
  Conditions: none beyond those of the given statement.
-/
import Derived.Test.YtoipgaolbjegnaaIe
import Derived.Test.YtoipgaolbjegnaaIf
import Derived.Test.YtoipgaolbjegnaaHbY
set_option maxRecDepth 100000
namespace Go.Proofs.Ytoipgaolbjegnaa.hullBest
open Go.ChangeShapes Go.WideShapes Go.ChangeAt Go.RowKit Go.Joins Go.Deep

set_option maxHeartbeats 8000000 in
theorem walk (R D : List Int) (sr sd : Option Addr) (mr md : Nat) (d r : Int) (W : World) (hR : HoldsI W sr R) (hD : HoldsI W sd D) : Calls Try.prog 9 #[.agg #[.slice sr R.length mr, .slice sd D.length md], .int .i64 d, .int .i64 r] W fun e w' => e = .returned (.bool true) ∧ Below W.heap.size W w' := by
  by_cases hy : VP R D ∧ okD d ∧ okR r ∧ r ≠ 0
  · obtain ⟨hv, hd, hr, h0⟩ := hy
    have k := hb_y R D hv D.length mr md sr sd d r hd hr h0 W hR hD rfl
    rw [show D.length = R.length from hv.1] at k ⊢
    exact k
  obtain ⟨WA, hWA⟩ : ∃ x, x = W.alloc (.cells #[.slice sr R.length mr, .slice sd D.length md] 24) := ⟨_, rfl⟩
  have hB : Below W.heap.size W WA := by rw [hWA]; exact below_alloc (Below.refl _ W) _
  have hX : Blk WA W.heap.size 24 #[.slice sr R.length mr, .slice sd D.length md] := by rw [hWA]; exact Blk.new W _ _
  have HB := Lib.hid hB
  have HX := Lib.hid hX
  have HR := Lib.hid (hR.below hB (Nat.le_refl _))
  have HD := Lib.hid (hD.below hB (Nat.le_refl _))
  have HWA := Lib.hid hWA
  obtain ⟨q0, q1⟩ := cv2 hX
  have kv := zvalid_c R D R.length D.length mr md sr sd WA HR.out HD.out rfl rfl
  have ke := ex20_c
  rw [hWA] at kv q0 q1
  clear hB hX hR hD hWA
  by_cases hv : VP R D
  · rw [decide_eq_true hv] at kv
    by_cases g1 : d < 0
    · clear hv hy
      go_enter Try.func9, Try.ntmps9
      go_wp2_with (first | (go_at_call 13; (with_reducible refine kv.mono ?_); rintro e w1 ⟨rfl, hb⟩; have B1 := Lib.hid (show Below WA.heap.size WA w1 by rw [HWA.out]; exact hb); clear hb) | (go_at_call 11; (with_reducible refine (ke _).mono ?_); rintro e w9 ⟨rfl, hb9⟩; have B9 := Lib.hid (below_call (below_call HB.out B1.out) hb9); clear hb9) | fail)
      go_ret
      exact ⟨rfl, B9.out⟩
    · by_cases g2 : 70368744177664 < d
      · clear hv hy
        go_enter Try.func9, Try.ntmps9
        go_wp2_with (first | (go_at_call 13; (with_reducible refine kv.mono ?_); rintro e w1 ⟨rfl, hb⟩; have B1 := Lib.hid (show Below WA.heap.size WA w1 by rw [HWA.out]; exact hb); clear hb) | (go_at_call 11; (with_reducible refine (ke _).mono ?_); rintro e w9 ⟨rfl, hb9⟩; have B9 := Lib.hid (below_call (below_call HB.out B1.out) hb9); clear hb9) | fail)
        go_ret
        exact ⟨rfl, B9.out⟩
      · by_cases g3 : r < 1
        · clear hv hy
          go_enter Try.func9, Try.ntmps9
          go_wp2_with (first | (go_at_call 13; (with_reducible refine kv.mono ?_); rintro e w1 ⟨rfl, hb⟩; have B1 := Lib.hid (show Below WA.heap.size WA w1 by rw [HWA.out]; exact hb); clear hb) | (go_at_call 11; (with_reducible refine (ke _).mono ?_); rintro e w9 ⟨rfl, hb9⟩; have B9 := Lib.hid (below_call (below_call HB.out B1.out) hb9); clear hb9) | fail)
          go_ret
          exact ⟨rfl, B9.out⟩
        · by_cases g4 : 65535 < r
          · clear hv hy
            go_enter Try.func9, Try.ntmps9
            go_wp2_with (first | (go_at_call 13; (with_reducible refine kv.mono ?_); rintro e w1 ⟨rfl, hb⟩; have B1 := Lib.hid (show Below WA.heap.size WA w1 by rw [HWA.out]; exact hb); clear hb) | (go_at_call 11; (with_reducible refine (ke _).mono ?_); rintro e w9 ⟨rfl, hb9⟩; have B9 := Lib.hid (below_call (below_call HB.out B1.out) hb9); clear hb9) | fail)
            go_ret
            exact ⟨rfl, B9.out⟩
          · exfalso
            exact hy ⟨hv, ⟨by omega, by omega⟩, ⟨by omega, by omega⟩, by omega⟩
  · rw [decide_eq_false hv] at kv
    clear hv hy
    go_enter Try.func9, Try.ntmps9
    go_wp2_with (first | (go_at_call 13; (with_reducible refine kv.mono ?_); rintro e w1 ⟨rfl, hb⟩; have B1 := Lib.hid (show Below WA.heap.size WA w1 by rw [HWA.out]; exact hb); clear hb) | (go_at_call 11; (with_reducible refine (ke _).mono ?_); rintro e w9 ⟨rfl, hb9⟩; have B9 := Lib.hid (below_call (below_call HB.out B1.out) hb9); clear hb9) | fail)
    go_ret
    exact ⟨rfl, B9.out⟩

set_option maxRecDepth 100000 in
theorem lifted (os : Os) (started : os.Started) (H : Type) (enc : TypeId × Value → H) :
    ReturnsInHanded {} Try.checked os 9 .any (Rows.hullBestSpec.pre6 enc Try.prog Try.f9 Rows.hullBestRow.domain false) (Rows.hullBestSpec.post enc Try.prog Try.f9 false true false false) := by
  refine returnsInHanded_of_change (C := Try.checked) own started (by kernel_rfl) Try.func9
    (ChangeSpec.witness6 (enc := enc) (C := Try.checked) false ⟨#[], #[.agg #[.slice none 0 0, .slice none 0 0], .int .i64 0, .int .i64 0], []⟩ 8 (by kernel_rfl) (by kernel_rfl) (by kernel_rfl) (by kernel_rfl)) ?_
  intro W base args ds gs before hval0 hW _ _
  have hval : ∀ (j : Nat) t v, Try.f9.params[j]? = some t → args[j]? = some v → Value.okWide Try.prog W .any base t v := hval0
  have hW' := hW
  obtain ⟨p, q, hA0, hV, rfl, _, _⟩ := hW
  have hA : DataW.TrodAll enc Try.prog W 0 (fun _ => true) true Try.f9.params.toList args.toList ds p := hA0
  rw [Try.params9] at hA hval
  obtain ⟨v0, vs0, d0, ds0, p0, q0, hargs, rfl, rfl, h0, r0⟩ := trodAll_cons hA
  obtain ⟨v1, vs1, d1, ds1, p1, q1, rfl, rfl, rfl, h1, r1⟩ := trodAll_cons r0
  obtain ⟨v2, vs2, d2, ds2, p2, q2, rfl, rfl, rfl, h2, r2⟩ := trodAll_cons r1
  obtain ⟨rfl, rfl, rfl⟩ := trodAll_nil r2
  obtain rfl : args = #[v0, v1, v2] := by cases args; simp_all
  obtain ⟨rfl, rfl⟩ := trodVars_none hV
  clear hA0 hval0
  simp only [List.append_nil] at hW'
  have l0 : ∀ x ∈ p0, x.block < W.heap.size := fun x hx => hW'.lt x (by simp [hx])
  have l1 : ∀ x ∈ p1, x.block < W.heap.size := fun x hx => hW'.lt x (by simp [hx])
  have l2 : ∀ x ∈ p2, x.block < W.heap.size := fun x hx => hW'.lt x (by simp [hx])
  obtain ⟨R0, D0, sr0, sd0, mr0, md0, hC0⟩ := open_curve (hval 0 24 v0 rfl rfl) h0
  obtain ⟨rfl, hR0, hD0⟩ := hC0
  obtain ⟨i1, rfl, _, _, wi1⟩ := open_int Try.underlying3 (hval 1 3 v1 rfl rfl) h1
  obtain ⟨i2, rfl, _, _, wi2⟩ := open_int Try.underlying3 (hval 2 3 v2 rfl rfl) h2
  refine (walk R0 D0 sr0 sd0 mr0 md0 i1 i2 W hR0 hD0).mono fun e W' ⟨he, hb⟩ => ?_
  subst he
  exact ⟨_, rfl, post_low (pa := p0 ++ (p1 ++ (p2 ++ ([])))) (pv := []) hW' (fun _ _ _ => (trodAll_cons_mk (shut_bool Try.underlying4 _) trodAll_mk0)) (fun sp hsp => (trodAll_cons_mk (trod_low laidOut (by kernel_rfl) (of_decide_eq_true (by kernel_rfl)) h0 hb l0 (fun x hx => hsp x (by simp [hx]))) (trodAll_cons_mk (trod_low laidOut (by kernel_rfl) (of_decide_eq_true (by kernel_rfl)) h1 hb l1 (fun x hx => hsp x (by simp [hx]))) (trodAll_cons_mk (trod_low laidOut (by kernel_rfl) (of_decide_eq_true (by kernel_rfl)) h2 hb l2 (fun x hx => hsp x (by simp [hx]))) trodAll_mk0)))) (fun _ _ => rfl) (by simp) hb (ok_one (by kernel_rfl) rfl (okWide_bool_mk Try.underlying4 _))⟩

theorem over : Rows.hullBestRow.holds Try.pinned (OpenSpec.ofChange Rows.hullBestSpec) :=
  OpenClaim.holds_of_wide 9 Try.f9 rfl rfl rfl rfl rfl rfl rfl ⟨rfl, rfl, rfl, rfl, rfl⟩ rfl rfl rfl rfl rfl (by kernel_rfl) Try.func9 (by kernel_rfl)
    (of_decide_eq_true (by kernel_rfl)) (by unfold Func.isWrapper; first | (rw [if_pos (by decide +kernel)]; kernel_rfl) | (rw [if_neg (by decide +kernel)]; exact ⟨rfl, rfl⟩))
    (fun os started H enc _ => lifted os started H enc)

theorem proved : Rows.HullBestSaid :=
  over
#print axioms proved
end Go.Proofs.Ytoipgaolbjegnaa.hullBest
