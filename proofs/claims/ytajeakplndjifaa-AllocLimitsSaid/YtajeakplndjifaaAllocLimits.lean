/-
  Layer 21: P21.1, P21.2, P21.3: AllocLimits.
  Conditions: none beyond those of the given statement.
-/
import Derived.Test.YtajeakplndjifaaBd
import Derived.Test.YtajeakplndjifaaBc
set_option maxRecDepth 100000
namespace Go.Proofs.Ytajeakplndjifaa.allocLimits
open Go.ChangeShapes Go.WideShapes Go.ChangeAt Go.RowKit Go.Joins Go.Deep

set_option maxHeartbeats 1000000 in
theorem walk (x : Int) (B : List Int) (t : Option Addr) (q : Nat) (W : World) (hL : HoldsI W t B) : Calls Try.prog 6 #[.int .i64 x, .slice t B.length q] W fun e w' => e = .returned (.bool true) ∧ Below W.heap.size W w' := by
  have B0 := Lib.hid (Below.refl W.heap.size W)
  have ke := fun W1 : World => ex21_c W1
  by_cases h1 : x < 1
  · clear hL
    go_enter Try.func6, Try.ntmps6
    go_wp2_with (first | (go_at_call 10; (with_reducible refine (ke _).mono ?_); rintro e w1 ⟨rfl, hb1⟩; have B1 := Lib.hid (B0.out.trans (hb1.mono B0.out.size)); clear hb1) | fail)
    go_ret
    exact ⟨rfl, B1.out⟩
  · by_cases h2 : 10 < x
    · clear hL
      go_enter Try.func6, Try.ntmps6
      go_wp2_with (first | (go_at_call 10; (with_reducible refine (ke _).mono ?_); rintro e w1 ⟨rfl, hb1⟩; have B1 := Lib.hid (B0.out.trans (hb1.mono B0.out.size)); clear hb1) | fail)
      go_ret
      exact ⟨rfl, B1.out⟩
    · by_cases h3 : 200 < B.length
      · have h4 : (200 : Int) < (B.length : Int) := by omega
        clear hL
        go_enter Try.func6, Try.ntmps6
        go_wp2_with (first | (go_at_call 10; (with_reducible refine (ke _).mono ?_); rintro e w1 ⟨rfl, hb1⟩; have B1 := Lib.hid (B0.out.trans (hb1.mono B0.out.size)); clear hb1) | fail)
        go_ret
        exact ⟨rfl, B1.out⟩
      · have h4 : ¬ (200 : Int) < (B.length : Int) := by omega
        obtain ⟨n, rfl⟩ : ∃ n : Nat, x = (n : Int) := ⟨x.toNat, by omega⟩
        have hw : IntKind.i64.wrap (65536 + (n : Int)) = ((65536 + n : Nat) : Int) := by rw [IntWalk.i64_left]; unfold wrap64; omega
        obtain ⟨N, hN⟩ : ∃ N, N = 65536 + n := ⟨_, rfl⟩
        rw [← hN] at hw
        have hN2 : 65536 < N := by omega
        have hN3 : N ≤ 65546 := by omega
        obtain ⟨j0, ji, jz0, jz1, jz2⟩ := info_parts infoC
        have hmk := run_make (P := Try.prog) (w := W) (22) 39 j0 (.agg #[.slice none 0 0, .slice none 0 0]) Try.underlying22 ji jz0 .i64 .i64 (N : Int) (N : Int) (by omega) (by omega) (by rw [jz2]; omega) (by omega)
        rw [jz1, Int.toNat_natCast] at hmk
        have k1 := fun (a : Option Addr) (W1 : World) => cost_big a N N (.slice none 0 0) W1 hN2
        have k2 := fun (a : Option Addr) (W1 : World) => choose_big a N N (-5) W1 hN2
        have k3 := layers_all t N B q
        have k4 := layers_one B q t
        have HLW := Lib.hid hL
        generalize madeCells (Value.agg #[.slice none 0 0, .slice none 0 0]).cells (N * 2) = MC at hmk
        have hA := Lib.hid (below_alloc (Below.refl W.heap.size W) (.cells MC 39))
        clear hL ji jz0 jz1 jz2 hN B0
        by_cases hp : 16 < B.length
        · have hp2 : (16 : Int) < (B.length : Int) := by omega
          have k4 := fun (W1 : World) => k4.1 hp W1
          go_enter Try.func6, Try.ntmps6
          go_wp2_with (first | (go_at_call 11; (with_reducible refine (k1 _ _).mono ?_); rintro e w1 ⟨rfl, rfl⟩) | (go_at_call 13; (with_reducible refine (k2 _ _).mono ?_); rintro e w2 ⟨rfl, hb2⟩; have B2 := Lib.hid (hA.out.trans (hb2.mono hA.out.size)); clear hb2) | (go_at_call 16; (with_reducible refine (k3 _ _ hN2).mono ?_); rintro e w3 ⟨rfl, rfl⟩) | (go_at_call 16; (with_reducible refine (k4 _).mono ?_); rintro e w4 ⟨rfl, hb4⟩; have B4 := Lib.hid (B2.out.trans (hb4.mono B2.out.size)); clear hb4) | (go_at_call 10; (with_reducible refine (ke _).mono ?_); rintro e w5 ⟨rfl, hb5⟩; have B5 := Lib.hid (B4.out.trans (hb5.mono B4.out.size)); clear hb5) | fail)
          go_ret
          exact ⟨rfl, B5.out⟩
        · have hp2 : ¬ (16 : Int) < (B.length : Int) := by omega
          have k4 := fun (W1 : World) => k4.2 hp W1
          go_enter Try.func6, Try.ntmps6
          go_wp2_with (first | (go_at_call 11; (with_reducible refine (k1 _ _).mono ?_); rintro e w1 ⟨rfl, rfl⟩) | (go_at_call 13; (with_reducible refine (k2 _ _).mono ?_); rintro e w2 ⟨rfl, hb2⟩; have B2 := Lib.hid (hA.out.trans (hb2.mono hA.out.size)); clear hb2) | (go_at_call 16; (with_reducible refine (k3 _ _ hN2).mono ?_); rintro e w3 ⟨rfl, rfl⟩) | (go_at_call 16; (with_reducible refine (k4 _).mono ?_); rintro e w4 ⟨rfl, hb4⟩; have B4 := Lib.hid (B2.out.trans (hb4.mono B2.out.size)); clear hb4) | (go_at_call 10; (with_reducible refine (ke _).mono ?_); rintro e w5 ⟨rfl, hb5⟩; have B5 := Lib.hid (B4.out.trans (hb5.mono B4.out.size)); clear hb5) | fail)
          go_ret
          exact ⟨by show Ending.returned (Value.bool (!decide ((16 : Int) < (B.length : Int)))) = _; rw [decide_eq_false (show ¬ (16 : Int) < (B.length : Int) by omega)]; rfl, B5.out⟩

set_option maxRecDepth 100000 in
theorem lifted (os : Os) (started : os.Started) (H : Type) (enc : TypeId × Value → H) :
    ReturnsInHanded {} Try.checked os 6 .any (Rows.allocLimitsSpec.pre6 enc Try.prog Try.f6 Rows.allocLimitsRow.domain false) (Rows.allocLimitsSpec.post enc Try.prog Try.f6 false true false false) := by
  refine returnsInHanded_of_change (C := Try.checked) own started (by kernel_rfl) Try.func6
    (ChangeSpec.witness6 (enc := enc) (C := Try.checked) false ⟨#[], #[.int .i64 0, .slice none 0 0], []⟩ 8 (by kernel_rfl) (by kernel_rfl) (by kernel_rfl) (by kernel_rfl)) ?_
  intro W base args ds gs before hval0 hW _ _
  have hval : ∀ (j : Nat) t v, Try.f6.params[j]? = some t → args[j]? = some v → Value.okWide Try.prog W .any base t v := hval0
  have hW' := hW
  obtain ⟨p, q, hA0, hV, rfl, _, _⟩ := hW
  have hA : DataW.TrodAll enc Try.prog W 0 (fun _ => true) true Try.f6.params.toList args.toList ds p := hA0
  rw [Try.params6] at hA hval
  obtain ⟨v0, vs0, d0, ds0, p0, q0, hargs, rfl, rfl, h0, r0⟩ := trodAll_cons hA
  obtain ⟨v1, vs1, d1, ds1, p1, q1, rfl, rfl, rfl, h1, r1⟩ := trodAll_cons r0
  obtain ⟨rfl, rfl, rfl⟩ := trodAll_nil r1
  obtain rfl : args = #[v0, v1] := by cases args; simp_all
  obtain ⟨rfl, rfl⟩ := trodVars_none hV
  clear hA0 hval0
  simp only [List.append_nil] at hW'
  have l0 : ∀ x ∈ p0, x.block < W.heap.size := fun x hx => hW'.lt x (by simp [hx])
  have l1 : ∀ x ∈ p1, x.block < W.heap.size := fun x hx => hW'.lt x (by simp [hx])
  obtain ⟨i0, rfl, _, _, wi0⟩ := open_int Try.underlying3 (hval 0 3 v0 rfl rfl) h0
  obtain ⟨s1, l1x, m1, rfl, hL1, _, hmx1, _⟩ := open_intsT (hval 1 23 v1 rfl rfl) h1
  refine (walk i0 l1x s1 m1 W hL1).mono fun e W' ⟨he, hb⟩ => ?_
  subst he
  exact ⟨_, rfl, post_low (pa := p0 ++ (p1 ++ ([]))) (pv := []) hW' (fun _ _ _ => (trodAll_cons_mk (shut_bool Try.underlying4 _) trodAll_mk0)) (fun sp hsp => (trodAll_cons_mk (trod_low laidOut (by kernel_rfl) (of_decide_eq_true (by kernel_rfl)) h0 hb l0 (fun x hx => hsp x (by simp [hx]))) (trodAll_cons_mk (trod_low laidOut (by kernel_rfl) (of_decide_eq_true (by kernel_rfl)) h1 hb l1 (fun x hx => hsp x (by simp [hx]))) trodAll_mk0))) (fun _ _ => rfl) (by simp) hb (ok_one (by kernel_rfl) rfl (okWide_bool_mk Try.underlying4 _))⟩

theorem over : Rows.allocLimitsRow.holds Try.pinned (OpenSpec.ofChange Rows.allocLimitsSpec) :=
  OpenClaim.holds_of_wide 6 Try.f6 rfl rfl rfl rfl rfl rfl rfl ⟨rfl, rfl, rfl, rfl, rfl⟩ rfl rfl rfl rfl rfl (by kernel_rfl) Try.func6 (by kernel_rfl)
    (of_decide_eq_true (by kernel_rfl)) (by unfold Func.isWrapper; first | (rw [if_pos (by decide +kernel)]; kernel_rfl) | (rw [if_neg (by decide +kernel)]; exact ⟨rfl, rfl⟩))
    (fun os started H enc _ => lifted os started H enc)

theorem proved : Rows.AllocLimitsSaid :=
  over
#print axioms proved
end Go.Proofs.Ytajeakplndjifaa.allocLimits
