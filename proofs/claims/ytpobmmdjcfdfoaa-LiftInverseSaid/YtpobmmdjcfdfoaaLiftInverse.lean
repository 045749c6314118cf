/-
  For all pairs of lists, integers start and kernels k the statement LiftInverse returns true (lists of more than 5000 numbers are left alone), and its argument reads afterwards as before.
  Conditions: none beyond those of the given statement.
-/
import Derived.Test.YtpobmmdjcfdfoaaFrameB
namespace Go.Proofs.Ytpobmmdjcfdfoaa.liftInverse
open Go.ChangeShapes Go.WideShapes Go.ChangeAt Go.RowKit Go.Joins Go.Deep

set_option maxRecDepth 100000 in
set_option maxHeartbeats 2000000 in
theorem walk (l k : List Int) (st kn : Int) (s t : Option Addr) (m m' : Nat) (hm : l.length ≤ m) (hm' : k.length ≤ m') (w : World) (hH : HoldsI w s l) (hK : HoldsI w t k) :
    Calls Try.prog 11 #[.agg #[.slice s l.length m, .slice t k.length m', .int .i64 st, .int .i64 kn]] w fun e w' => e = .returned (.bool true) ∧ Below w.heap.size w w' := by
  by_cases hf : (5000 : Int) < (l.length : Int)
  · have b := Bb.fresh w s t l.length m k.length m' st kn
    have lx := hH.alloc (.cells #[.slice s l.length m, .slice t k.length m', .int .i64 st, .int .i64 kn] 44)
    have ly := hK.alloc (.cells #[.slice s l.length m, .slice t k.length m', .int .i64 st, .int .i64 kn] 44)
    have B := below_alloc (Below.refl _ w) (.cells #[.slice s l.length m, .slice t k.length m', .int .i64 st, .int .i64 kn] 44)
    go_enter Try.func11, Try.ntmps11
    obtain ⟨b0, b1, b2, b3⟩ := b.open
    go_wp2_with fail
    clear b0 b1 b2 b3
    refine (example04_c _).mono ?_
    rintro e w1 ⟨rfl, hb⟩
    replace b := b.below hb
    replace lx := lx.call hb
    replace ly := ly.call hb
    replace B := below_call B hb
    clear hb
    go_wp2
    go_ret
    exact ⟨rfl, B⟩
  · by_cases hg : (5000 : Int) < (k.length : Int)
    · have b := Bb.fresh w s t l.length m k.length m' st kn
      have lx := hH.alloc (.cells #[.slice s l.length m, .slice t k.length m', .int .i64 st, .int .i64 kn] 44)
      have ly := hK.alloc (.cells #[.slice s l.length m, .slice t k.length m', .int .i64 st, .int .i64 kn] 44)
      have B := below_alloc (Below.refl _ w) (.cells #[.slice s l.length m, .slice t k.length m', .int .i64 st, .int .i64 kn] 44)
      go_enter Try.func11, Try.ntmps11
      obtain ⟨b0, b1, b2, b3⟩ := b.open
      go_wp2_with fail
      clear b0 b1 b2 b3
      refine (example04_c _).mono ?_
      rintro e w1 ⟨rfl, hb⟩
      replace b := b.below hb
      replace lx := lx.call hb
      replace ly := ly.call hb
      replace B := below_call B hb
      clear hb
      go_wp2
      go_ret
      exact ⟨rfl, B⟩
    · obtain ⟨L, err, hL, hc, hr⟩ := inv_both l k st kn s t m m' hm hm' (by omega) (by omega)
      have b := Bb.fresh w s t l.length m k.length m' st kn
      have lx := hH.alloc (.cells #[.slice s l.length m, .slice t k.length m', .int .i64 st, .int .i64 kn] 44)
      have ly := hK.alloc (.cells #[.slice s l.length m, .slice t k.length m', .int .i64 st, .int .i64 kn] 44)
      have B := below_alloc (Below.refl _ w) (.cells #[.slice s l.length m, .slice t k.length m', .int .i64 st, .int .i64 kn] 44)
      go_enter Try.func11, Try.ntmps11
      obtain ⟨b0, b1, b2, b3⟩ := b.open
      go_wp2_with fail
      clear b0 b1 b2 b3
      refine (hc _ lx ly).mono ?_
      rintro e w1 ⟨s1, m1, rfl, l1, hb, _⟩
      replace b := b.below hb
      replace lx := lx.call hb
      replace ly := ly.call hb
      replace B := below_call B hb
      clear hb
      obtain ⟨b0, b1, b2, b3⟩ := b.open
      go_wp2_with fail
      clear b0 b1 b2 b3
      refine (hr _ lx ly).mono ?_
      rintro e w2 ⟨s3, m3, rfl, l3, hb, _⟩
      replace b := b.below hb
      replace lx := lx.call hb
      replace ly := ly.call hb
      replace l1 := l1.call hb
      replace B := below_call B hb
      clear hb
      go_wp2_with fail
      refine (ints_t L _ rfl (by omega) _ _ _ _ _ l1 l3).mono ?_
      rintro e w3 ⟨rfl, hb⟩
      replace b := b.below hb
      replace lx := lx.call hb
      replace ly := ly.call hb
      replace l1 := l1.call hb
      replace l3 := l3.call hb
      replace B := below_call B hb
      clear hb
      go_wp2_with fail
      refine (example04_c _).mono ?_
      rintro e w4 ⟨rfl, hb⟩
      replace b := b.below hb
      replace lx := lx.call hb
      replace ly := ly.call hb
      replace l1 := l1.call hb
      replace l3 := l3.call hb
      replace B := below_call B hb
      clear hb
      go_wp2
      go_ret
      exact ⟨rfl, B⟩

set_option maxRecDepth 100000 in
theorem lifted (os : Os) (started : os.Started) (H : Type) (enc : TypeId × Value → H) :
    ReturnsInHanded {} Try.checked os 11 .any (Rows.liftInverseSpec.pre6 enc Try.prog Try.f11 Rows.liftInverseRow.domain false) (Rows.liftInverseSpec.post enc Try.prog Try.f11 false true false false) := by
  refine returnsInHanded_of_change (C := Try.checked) own started (by kernel_rfl) Try.func11
    (ChangeSpec.witness6 (enc := enc) (C := Try.checked) false ⟨#[], #[.agg #[.slice none 0 0, .slice none 0 0, .int .i64 0, .int .i64 0]], []⟩ 8 (by kernel_rfl) (by kernel_rfl) (by kernel_rfl) (by kernel_rfl)) ?_
  intro W base args ds gs before hval0 hW _ _
  have hval : ∀ (j : Nat) t v, Try.f11.params[j]? = some t → args[j]? = some v → Value.okWide Try.prog W .any base t v := hval0
  have hW' := hW
  obtain ⟨p, q, hA0, hV, rfl, _, _⟩ := hW
  have hA : DataW.TrodAll enc Try.prog W 0 (fun _ => true) true Try.f11.params.toList args.toList ds p := hA0
  rw [Try.params11] at hA hval
  obtain ⟨v0, vs0, d0, ds0, p0, q0, hargs, rfl, rfl, h0, r0⟩ := trodAll_cons hA
  obtain ⟨rfl, rfl, rfl⟩ := trodAll_nil r0
  obtain rfl : args = #[v0] := by cases args; simp_all
  obtain ⟨rfl, rfl⟩ := trodVars_none hV
  clear hA0 hval0
  simp only [List.append_nil] at hW'
  have l0 : ∀ x ∈ p0, x.block < W.heap.size := fun x hx => hW'.lt x (by simp [hx])
  obtain ⟨s, l, m, t, k, m', st, kn, rfl, hH0, hm0, hx0, hn0, hH1, hm1, hx1, hn1⟩ := open_bands (hval 0 44 v0 rfl rfl) h0
  refine (walk l k st kn s t m m' hm0 hm1 W hH0 hH1).mono fun e W' ⟨he, hb⟩ => ?_
  subst he
  exact ⟨_, rfl, post_low (pa := p0 ++ ([])) (pv := []) hW' (fun _ _ _ => (trodAll_cons_mk (shut_bool Try.underlying4 _) trodAll_mk0)) (fun sp hsp => (trodAll_cons_mk (trod_low laidOut (by kernel_rfl) (of_decide_eq_true (by kernel_rfl)) h0 hb l0 (fun x hx => hsp x (by simp [hx]))) trodAll_mk0)) (fun _ _ => rfl) (by simp) hb (ok_one (by kernel_rfl) rfl (okWide_bool_mk Try.underlying4 _))⟩

theorem over : Rows.liftInverseRow.holds Try.pinned (OpenSpec.ofChange Rows.liftInverseSpec) :=
  OpenClaim.holds_of_wide 11 Try.f11 rfl rfl rfl rfl rfl rfl rfl ⟨rfl, rfl, rfl, rfl, rfl⟩ rfl rfl rfl rfl rfl (by kernel_rfl) Try.func11 (by kernel_rfl)
    (of_decide_eq_true (by kernel_rfl)) (by unfold Func.isWrapper; first | (rw [if_pos (by decide +kernel)]; kernel_rfl) | (rw [if_neg (by decide +kernel)]; exact ⟨rfl, rfl⟩))
    (fun os started H enc _ => lifted os started H enc)

theorem proved : Rows.LiftInverseSaid :=
  over
#print axioms proved
end Go.Proofs.Ytpobmmdjcfdfoaa.liftInverse
