/-
  For all signals x, integers start and kernels k the statement LiftReturns returns true (a signal that Forward does not accept, or of more than 200 samples, is left alone), and its arguments read afterwards as before.
  Conditions: none beyond those of the given statement.
-/
import Derived.Test.YtpobmmdjcfdfoaaFrameB
namespace Go.Proofs.Ytpobmmdjcfdfoaa.liftReturns
open Go.ChangeShapes Go.WideShapes Go.ChangeAt Go.RowKit Go.Joins Go.Deep

set_option maxRecDepth 100000 in
set_option maxHeartbeats 2000000 in
theorem walk (l : List Int) (st kn : Int) (s : Option Addr) (m : Nat) (hs : s = none → l.length = 0 ∧ m = 0) (w : World) (hH : HoldsI w s l) :
    Calls Try.prog 13 #[.slice s l.length m, .int .i64 st, .int .i64 kn] w fun e w' => e = .returned (.bool true) ∧ Below w.heap.size w w' := by
  cases hva : vaB l st kn with
  | false =>
    have B := Below.refl w.heap.size w
    go_enter Try.func13, Try.ntmps13
    go_wp2_with fail
    refine (va_r _ _ _ _ _ _ hH).mono ?_
    rintro e wn ⟨rfl, rfl⟩
    go_wp2_with fail
    refine (example04_c _).mono ?_
    rintro e w1 ⟨rfl, hb⟩
    replace B := below_call B hb
    clear hb
    go_wp2
    go_ret
    exact ⟨rfl, B⟩
  | true =>
    have hf := va_fw hva
    have hl2 : l.length ≤ 200 := (va_iff.1 hva).1.1
    cases s with
    | some p =>
      have B := Below.refl w.heap.size w
      have lx := hH
      go_enter Try.func13, Try.ntmps13
      obtain ⟨i0, hi, hz0, hz1, hz2⟩ := info_parts infoI
      have HN : Hid _ := holdsI_list (hH.alloc (.cells #[] 3))
      go_wp2_with (first | (go_at_call 41; refine (va_r _ _ _ _ _ _ hH).mono ?_; rintro e wn ⟨rfl, rfl⟩) | (at_builtin; refine wpList_append_own _ rfl _ _ 28 rfl w.heap.size 3 i0 (.int .i64 0) 1 8 Try.underlying28 hi hz0 hz1 hz2 rfl (by decide) _ 0 [] rfl (World.ownsRow_made w #[] 0 (Nat.le_refl _) (by decide) (by simp)) p l.length m (l.map (Value.int .i64)) rfl (by simp) HN.out (oneI _) (by unfold maxLen; omega) (by omega) (by simp) ?_))
      intro v' w0 hown hgrow _
      have GB : Gl w v' l w0 := ⟨(below_alloc (Below.refl _ w) _).grown hgrow (below_alloc (Below.refl _ w) _).size (fun k hk => by simp [Value.ownBlock] at hk; omega), by simpa using hown⟩
      obtain ⟨sb, mb, rfl, lb, _⟩ := GB.holds
      replace B := GB.below
      replace lx := hH.below GB.below (Nat.le_refl _)
      clear hown hgrow GB
      go_wp2_with fail
      refine (fwd_cyes _ _ _ _ _ _ hf.1 hf.2 hs lx).mono ?_
      rintro e w1 ⟨s1, m1, s2, m2, rfl, l1, l2, hb, ⟨c1, _⟩, ⟨c2, _⟩⟩
      replace lx := lx.call hb
      replace lb := lb.call hb
      replace B := below_call B hb
      clear hb
      go_wp2_with fail
      refine (inv_back hf.1 hf.2 _ _ _ _ c1 c2 _ l1 l2).mono ?_
      rintro e w2 ⟨s3, m3, rfl, l3, hb, _⟩
      replace lx := lx.call hb
      replace lb := lb.call hb
      replace l1 := l1.call hb
      replace l2 := l2.call hb
      replace B := below_call B hb
      clear hb
      go_wp2_with fail
      refine (ints_t _ _ rfl (by omega) _ _ _ _ _ l3 lb).mono ?_
      rintro e w3 ⟨rfl, hb⟩
      replace lx := lx.call hb
      replace lb := lb.call hb
      replace l1 := l1.call hb
      replace l2 := l2.call hb
      replace l3 := l3.call hb
      replace B := below_call B hb
      clear hb
      go_wp2_with fail
      refine (example04_c _).mono ?_
      rintro e w4 ⟨rfl, hb⟩
      replace lx := lx.call hb
      replace lb := lb.call hb
      replace l1 := l1.call hb
      replace l2 := l2.call hb
      replace l3 := l3.call hb
      replace B := below_call B hb
      clear hb
      go_wp2
      go_ret
      exact ⟨rfl, B⟩
    | none =>
      obtain ⟨h0, h00⟩ := hs rfl
      obtain rfl := List.length_eq_zero_iff.1 h0
      subst h00
      have B := Below.refl w.heap.size w
      have lx := hH
      go_enter Try.func13, Try.ntmps13
      obtain ⟨i0, hi, hz0, hz1, hz2⟩ := info_parts infoI
      go_wp2_with (first | (go_at_call 41; refine (va_r [] _ _ _ _ _ hH).mono ?_; rintro e wn ⟨rfl, rfl⟩) | (at_builtin; refine wpList_append_own_none rfl _ _ 28 rfl w.heap.size 3 i0 1 Try.underlying28 hi _ 0 [] rfl (World.ownsRow_made w #[] 0 (Nat.le_refl _) (by decide) (by simp)) rfl ?_))
      replace B := below_alloc B (.cells #[] 3)
      replace lx := lx.alloc (.cells #[] 3)
      have lb : HoldsI (w.alloc (.cells #[] 3)) (some ⟨w.heap.size, 0, none⟩) [] := .inl rfl
      go_wp2_with fail
      refine (fwd_cyes [] _ _ none 0 _ hf.1 hf.2 (fun _ => ⟨rfl, rfl⟩) lx).mono ?_
      rintro e w1 ⟨s1, m1, s2, m2, rfl, l1, l2, hb, ⟨c1, _⟩, ⟨c2, _⟩⟩
      replace lx := lx.call hb
      replace lb := lb.call hb
      replace B := below_call B hb
      clear hb
      go_wp2_with fail
      refine (inv_back hf.1 hf.2 _ _ _ _ c1 c2 _ l1 l2).mono ?_
      rintro e w2 ⟨s3, m3, rfl, l3, hb, _⟩
      replace lx := lx.call hb
      replace lb := lb.call hb
      replace l1 := l1.call hb
      replace l2 := l2.call hb
      replace B := below_call B hb
      clear hb
      go_wp2_with fail
      refine (ints_t [] 0 rfl (by decide) _ _ _ _ _ l3 lb).mono ?_
      rintro e w3 ⟨rfl, hb⟩
      replace lx := lx.call hb
      replace lb := lb.call hb
      replace l1 := l1.call hb
      replace l2 := l2.call hb
      replace l3 := l3.call hb
      replace B := below_call B hb
      clear hb
      go_wp2_with fail
      refine (example04_c _).mono ?_
      rintro e w4 ⟨rfl, hb⟩
      replace lx := lx.call hb
      replace lb := lb.call hb
      replace l1 := l1.call hb
      replace l2 := l2.call hb
      replace l3 := l3.call hb
      replace B := below_call B hb
      clear hb
      go_wp2
      go_ret
      exact ⟨rfl, B⟩

set_option maxRecDepth 100000 in
theorem lifted (os : Os) (started : os.Started) (H : Type) (enc : TypeId × Value → H) :
    ReturnsInHanded {} Try.checked os 13 .any (Rows.liftReturnsSpec.pre6 enc Try.prog Try.f13 Rows.liftReturnsRow.domain false) (Rows.liftReturnsSpec.post enc Try.prog Try.f13 false true false false) := by
  refine returnsInHanded_of_change (C := Try.checked) own started (by kernel_rfl) Try.func13
    (ChangeSpec.witness6 (enc := enc) (C := Try.checked) false ⟨#[], #[.slice none 0 0, .int .i64 0, .int .i64 0], []⟩ 8 (by kernel_rfl) (by kernel_rfl) (by kernel_rfl) (by kernel_rfl)) ?_
  intro W base args ds gs before hval0 hW _ _
  have hval : ∀ (j : Nat) t v, Try.f13.params[j]? = some t → args[j]? = some v → Value.okWide Try.prog W .any base t v := hval0
  have hW' := hW
  obtain ⟨p, q, hA0, hV, rfl, _, _⟩ := hW
  have hA : DataW.TrodAll enc Try.prog W 0 (fun _ => true) true Try.f13.params.toList args.toList ds p := hA0
  rw [Try.params13] at hA hval
  obtain ⟨v0, vs0, d0, ds0, p0, q0, hargs, rfl, rfl, h0, r0⟩ := trodAll_cons hA
  obtain ⟨v1, vs1, d1, ds1, p1, q1, rfl, rfl, rfl, h1, r1⟩ := trodAll_cons r0
  obtain ⟨v2, vs2, d2, ds2, p2, q2, rfl, rfl, rfl, h2, r2⟩ := trodAll_cons r1
  obtain ⟨rfl, rfl, rfl⟩ := trodAll_nil r2
  obtain rfl : args = #[v0, v1, v2] := by cases args; simp_all
  obtain ⟨rfl, rfl⟩ := trodVars_none hV
  clear hA0 hval0
  simp only [List.append_nil] at hW'
  have l0 : ∀ x ∈ p0, x.block < W.heap.size := fun x hx => hW'.lt x (by simp [hx])
  have l1 : ∀ x ∈ p1, x.block < W.heap.size := fun x hx => hW'.lt x (by simp [hx])
  have l2 : ∀ x ∈ p2, x.block < W.heap.size := fun x hx => hW'.lt x (by simp [hx])
  obtain ⟨s, l, m, rfl, hH0, hm0, hx0, hn0⟩ := open_intsT (hval 0 28 v0 rfl rfl) h0
  obtain ⟨st, rfl, _, _, wst⟩ := open_int Try.underlying3 (hval 1 3 v1 rfl rfl) h1
  obtain ⟨kn, rfl, _, _, wkn⟩ := open_int Try.underlying40 (hval 2 40 v2 rfl rfl) h2
  refine (walk l st kn s m hn0 W hH0).mono fun e W' ⟨he, hb⟩ => ?_
  subst he
  exact ⟨_, rfl, post_low (pa := p0 ++ (p1 ++ (p2 ++ ([])))) (pv := []) hW' (fun _ _ _ => (trodAll_cons_mk (shut_bool Try.underlying4 _) trodAll_mk0)) (fun sp hsp => (trodAll_cons_mk (trod_low laidOut (by kernel_rfl) (of_decide_eq_true (by kernel_rfl)) h0 hb l0 (fun x hx => hsp x (by simp [hx]))) (trodAll_cons_mk (trod_low laidOut (by kernel_rfl) (of_decide_eq_true (by kernel_rfl)) h1 hb l1 (fun x hx => hsp x (by simp [hx]))) (trodAll_cons_mk (trod_low laidOut (by kernel_rfl) (of_decide_eq_true (by kernel_rfl)) h2 hb l2 (fun x hx => hsp x (by simp [hx]))) trodAll_mk0)))) (fun _ _ => rfl) (by simp) hb (ok_one (by kernel_rfl) rfl (okWide_bool_mk Try.underlying4 _))⟩

theorem over : Rows.liftReturnsRow.holds Try.pinned (OpenSpec.ofChange Rows.liftReturnsSpec) :=
  OpenClaim.holds_of_wide 13 Try.f13 rfl rfl rfl rfl rfl rfl rfl ⟨rfl, rfl, rfl, rfl, rfl⟩ rfl rfl rfl rfl rfl (by kernel_rfl) Try.func13 (by kernel_rfl)
    (of_decide_eq_true (by kernel_rfl)) (by unfold Func.isWrapper; first | (rw [if_pos (by decide +kernel)]; kernel_rfl) | (rw [if_neg (by decide +kernel)]; exact ⟨rfl, rfl⟩))
    (fun os started H enc _ => lifted os started H enc)

theorem proved : Rows.LiftReturnsSaid :=
  over
#print axioms proved
end Go.Proofs.Ytpobmmdjcfdfoaa.liftReturns
