/-
  For all signals x and integers start the statement ExtendSplits returns true (a signal of more than 5000 samples is left alone), and its arguments read afterwards as before.
  Conditions: none beyond those of the given statement.
-/
import Derived.Test.YtpobmmdjcfdfoaaFrameI
import Derived.Test.YtpobmmdjcfdfoaaExtB
namespace Go.Proofs.Ytpobmmdjcfdfoaa.extendSplits
open Go.ChangeShapes Go.WideShapes Go.ChangeAt Go.RowKit Go.Joins Go.Deep

set_option maxRecDepth 100000 in
set_option maxHeartbeats 2000000 in
theorem walk (l : List Int) (st : Int) (s : Option Addr) (m : Nat) (w : World) (hH : HoldsI w s l) :
    Calls Try.prog 5 #[.slice s l.length m, .int .i64 st] w fun e w' => e = .returned (.bool true) ∧ Below w.heap.size w w' := by
  obtain ⟨E, O, err, hE, hO, hc, hr⟩ := split_both l st s m
  by_cases hf : (5000 : Int) < (l.length : Int)
  · have B := Below.refl w.heap.size w
    go_enter Try.func5, Try.ntmps5
    go_wp2_with fail
    refine (example03_c _).mono ?_
    rintro e w1 ⟨rfl, hb⟩
    replace B := below_call B hb
    clear hb
    go_wp2
    go_ret
    exact ⟨rfl, B⟩
  · have B := Below.refl w.heap.size w
    have lx := hH
    go_enter Try.func5, Try.ntmps5
    go_wp2_with fail
    refine (hc _ lx).mono ?_
    rintro e w1 ⟨s1, m1, s2, m2, rfl, l1, l2, hb, _, _⟩
    replace lx := lx.call hb
    replace B := below_call B hb
    clear hb
    go_wp2_with fail
    refine (hr _ lx).mono ?_
    rintro e w2 ⟨s3, m3, s4, m4, rfl, l3, l4, hb, _, _⟩
    replace lx := lx.call hb
    replace l1 := l1.call hb
    replace l2 := l2.call hb
    replace B := below_call B hb
    clear hb
    go_wp2_with fail
    refine (ints_t E _ rfl (by omega) _ _ _ _ _ l1 l3).mono ?_
    rintro e w3 ⟨rfl, hb⟩
    replace lx := lx.call hb
    replace l1 := l1.call hb
    replace l2 := l2.call hb
    replace l3 := l3.call hb
    replace l4 := l4.call hb
    replace B := below_call B hb
    clear hb
    go_wp2_with fail
    refine (ints_t O _ rfl (by omega) _ _ _ _ _ l2 l4).mono ?_
    rintro e w4 ⟨rfl, hb⟩
    replace lx := lx.call hb
    replace l1 := l1.call hb
    replace l2 := l2.call hb
    replace l3 := l3.call hb
    replace l4 := l4.call hb
    replace B := below_call B hb
    clear hb
    go_wp2_with fail
    refine (example03_c _).mono ?_
    rintro e w5 ⟨rfl, hb⟩
    replace lx := lx.call hb
    replace l1 := l1.call hb
    replace l2 := l2.call hb
    replace l3 := l3.call hb
    replace l4 := l4.call hb
    replace B := below_call B hb
    clear hb
    go_wp2
    go_ret
    exact ⟨rfl, B⟩

set_option maxRecDepth 100000 in
theorem lifted (os : Os) (started : os.Started) (H : Type) (enc : TypeId × Value → H) :
    ReturnsInHanded {} Try.checked os 5 .any (Rows.extendSplitsSpec.pre6 enc Try.prog Try.f5 Rows.extendSplitsRow.domain false) (Rows.extendSplitsSpec.post enc Try.prog Try.f5 false true false false) := by
  refine returnsInHanded_of_change (C := Try.checked) own started (by kernel_rfl) Try.func5
    (ChangeSpec.witness6 (enc := enc) (C := Try.checked) false ⟨#[], #[.slice none 0 0, .int .i64 0], []⟩ 8 (by kernel_rfl) (by kernel_rfl) (by kernel_rfl) (by kernel_rfl)) ?_
  intro W base args ds gs before hval0 hW _ _
  have hval : ∀ (j : Nat) t v, Try.f5.params[j]? = some t → args[j]? = some v → Value.okWide Try.prog W .any base t v := hval0
  have hW' := hW
  obtain ⟨p, q, hA0, hV, rfl, _, _⟩ := hW
  have hA : DataW.TrodAll enc Try.prog W 0 (fun _ => true) true Try.f5.params.toList args.toList ds p := hA0
  rw [Try.params5] at hA hval
  obtain ⟨v0, vs0, d0, ds0, p0, q0, hargs, rfl, rfl, h0, r0⟩ := trodAll_cons hA
  obtain ⟨v1, vs1, d1, ds1, p1, q1, rfl, rfl, rfl, h1, r1⟩ := trodAll_cons r0
  obtain ⟨rfl, rfl, rfl⟩ := trodAll_nil r1
  obtain rfl : args = #[v0, v1] := by cases args; simp_all
  obtain ⟨rfl, rfl⟩ := trodVars_none hV
  clear hA0 hval0
  simp only [List.append_nil] at hW'
  have l0 : ∀ x ∈ p0, x.block < W.heap.size := fun x hx => hW'.lt x (by simp [hx])
  have l1 : ∀ x ∈ p1, x.block < W.heap.size := fun x hx => hW'.lt x (by simp [hx])
  obtain ⟨s, l, m, rfl, hH0, hm0, hx0, hn0⟩ := open_intsT (hval 0 28 v0 rfl rfl) h0
  obtain ⟨st, rfl, _, _, wst⟩ := open_int Try.underlying3 (hval 1 3 v1 rfl rfl) h1
  refine (walk l st s m W hH0).mono fun e W' ⟨he, hb⟩ => ?_
  subst he
  exact ⟨_, rfl, post_low (pa := p0 ++ (p1 ++ ([]))) (pv := []) hW' (fun _ _ _ => (trodAll_cons_mk (shut_bool Try.underlying4 _) trodAll_mk0)) (fun sp hsp => (trodAll_cons_mk (trod_low laidOut (by kernel_rfl) (of_decide_eq_true (by kernel_rfl)) h0 hb l0 (fun x hx => hsp x (by simp [hx]))) (trodAll_cons_mk (trod_low laidOut (by kernel_rfl) (of_decide_eq_true (by kernel_rfl)) h1 hb l1 (fun x hx => hsp x (by simp [hx]))) trodAll_mk0))) (fun _ _ => rfl) (by simp) hb (ok_one (by kernel_rfl) rfl (okWide_bool_mk Try.underlying4 _))⟩

theorem over : Rows.extendSplitsRow.holds Try.pinned (OpenSpec.ofChange Rows.extendSplitsSpec) :=
  OpenClaim.holds_of_wide 5 Try.f5 rfl rfl rfl rfl rfl rfl rfl ⟨rfl, rfl, rfl, rfl, rfl⟩ rfl rfl rfl rfl rfl (by kernel_rfl) Try.func5 (by kernel_rfl)
    (of_decide_eq_true (by kernel_rfl)) (by unfold Func.isWrapper; first | (rw [if_pos (by decide +kernel)]; kernel_rfl) | (rw [if_neg (by decide +kernel)]; exact ⟨rfl, rfl⟩))
    (fun os started H enc _ => lifted os started H enc)

theorem proved : Rows.ExtendSplitsSaid :=
  over
#print axioms proved
end Go.Proofs.Ytpobmmdjcfdfoaa.extendSplits
