/-
  For all signals x and integers start the statement ExtendReturns returns true (a signal that Split does not accept is left alone), and its arguments read afterwards as before.
  Conditions: none beyond those of the given statement.
-/
import Derived.Test.YtpobmmdjcfdfoaaFrameI
import Derived.Test.YtpobmmdjcfdfoaaExtB
import Derived.Laws.AppendOwnNone
namespace Go.Proofs.Ytpobmmdjcfdfoaa.extendReturns
open Go.ChangeShapes Go.WideShapes Go.ChangeAt Go.RowKit Go.Joins Go.Deep

set_option maxRecDepth 100000 in
set_option maxHeartbeats 2000000 in
theorem walk (l : List Int) (st : Int) (s : Option Addr) (m : Nat) (hn : s = none → l.length = 0 ∧ m = 0) (w : World) (hH : HoldsI w s l) :
    Calls Try.prog 9 #[.slice s l.length m, .int .i64 st] w fun e w' => e = .returned (.bool true) ∧ Below w.heap.size w w' := by
  by_cases hf : (4096 : Int) < (l.length : Int)
  · have B := Below.refl w.heap.size w
    go_enter Try.func9, Try.ntmps9
    go_wp2_with fail
    refine (example03_c _).mono ?_
    rintro e w1 ⟨rfl, hb⟩
    replace B := below_call B hb
    clear hb
    go_wp2
    go_ret
    exact ⟨rfl, B⟩
  · by_cases h1 : st < 0
    · have B := Below.refl w.heap.size w
      go_enter Try.func9, Try.ntmps9
      go_wp2_with fail
      refine (example03_c _).mono ?_
      rintro e w1 ⟨rfl, hb⟩
      replace B := below_call B hb
      clear hb
      go_wp2
      go_ret
      exact ⟨rfl, B⟩
    · by_cases h2 : 4096 < st
      · have B := Below.refl w.heap.size w
        go_enter Try.func9, Try.ntmps9
        go_wp2_with fail
        refine (example03_c _).mono ?_
        rintro e w1 ⟨rfl, hb⟩
        replace B := below_call B hb
        clear hb
        go_wp2
        go_ret
        exact ⟨rfl, B⟩
      · have hs : spB st l.length = true := sp_iff.2 ⟨by omega, by omega, by omega⟩
        cases s with
        | some p =>
          have B := Below.refl w.heap.size w
          have lx := hH
          go_enter Try.func9, Try.ntmps9
          obtain ⟨i0, hi, hz0, hz1, hz2⟩ := info_parts infoI
          have HN : Hid _ := holdsI_list (hH.alloc (.cells #[] 3))
          go_wp2_with (first | (at_builtin; refine wpList_append_own _ rfl _ _ 28 rfl w.heap.size 3 i0 (.int .i64 0) 1 8 Try.underlying28 hi hz0 hz1 hz2 rfl (by decide) _ 0 [] rfl (World.ownsRow_made w #[] 0 (Nat.le_refl _) (by decide) (by simp)) p l.length m (l.map (Value.int .i64)) rfl (by simp) HN.out (oneI _) (by unfold maxLen; omega) (by omega) (by simp) ?_))
          intro v' w0 hown hgrow _
          have GB : Gl w v' l w0 := ⟨(below_alloc (Below.refl _ w) _).grown hgrow (below_alloc (Below.refl _ w) _).size (fun k hk => by simp [Value.ownBlock] at hk; omega), by simpa using hown⟩
          obtain ⟨sb, mb, rfl, lb, _⟩ := GB.holds
          replace B := GB.below
          replace lx := hH.below GB.below (Nat.le_refl _)
          clear hown hgrow GB
          go_wp2_with fail
          refine (split_cyes _ _ _ _ _ hs lx).mono ?_
          rintro e w1 ⟨s1, m1, s2, m2, rfl, l1, l2, hb, ⟨c1, _⟩, ⟨c2, _⟩⟩
          replace lx := lx.call hb
          replace lb := lb.call hb
          replace B := below_call B hb
          clear hb
          go_wp2_with fail
          refine (join_back hs _ _ _ _ c1 c2 _ l1 l2).mono ?_
          rintro e w2 ⟨s3, m3, rfl, l3, hb, _⟩
          replace lx := lx.call hb
          replace lb := lb.call hb
          replace l1 := l1.call hb
          replace l2 := l2.call hb
          replace B := below_call B hb
          clear hb
          go_wp2_with fail
          refine (ints_t _ _ rfl (by omega) _ _ _ _ _ l3 lb).mono ?_
          rintro e w3 ⟨rfl, hb⟩
          replace lx := lx.call hb
          replace lb := lb.call hb
          replace l1 := l1.call hb
          replace l2 := l2.call hb
          replace l3 := l3.call hb
          replace B := below_call B hb
          clear hb
          go_wp2_with fail
          refine (example03_c _).mono ?_
          rintro e w4 ⟨rfl, hb⟩
          replace lx := lx.call hb
          replace lb := lb.call hb
          replace l1 := l1.call hb
          replace l2 := l2.call hb
          replace l3 := l3.call hb
          replace B := below_call B hb
          clear hb
          go_wp2
          go_ret
          exact ⟨rfl, B⟩
        | none =>
          obtain ⟨h0, h00⟩ := hn rfl
          obtain rfl := List.length_eq_zero_iff.1 h0
          subst h00
          have B := Below.refl w.heap.size w
          have lx := hH
          go_enter Try.func9, Try.ntmps9
          obtain ⟨i0, hi, hz0, hz1, hz2⟩ := info_parts infoI
          go_wp2_with (first | (at_builtin; refine wpList_append_own_none rfl _ _ 28 rfl w.heap.size 3 i0 1 Try.underlying28 hi _ 0 [] rfl (World.ownsRow_made w #[] 0 (Nat.le_refl _) (by decide) (by simp)) rfl ?_))
          replace B := below_alloc B (.cells #[] 3)
          replace lx := lx.alloc (.cells #[] 3)
          have lb : HoldsI (w.alloc (.cells #[] 3)) (some ⟨w.heap.size, 0, none⟩) [] := .inl rfl
          go_wp2_with fail
          refine (split_cyes _ _ _ _ _ hs lx).mono ?_
          rintro e w1 ⟨s1, m1, s2, m2, rfl, l1, l2, hb, ⟨c1, _⟩, ⟨c2, _⟩⟩
          replace lx := lx.call hb
          replace lb := lb.call hb
          replace B := below_call B hb
          clear hb
          go_wp2_with fail
          refine (join_back hs _ _ _ _ c1 c2 _ l1 l2).mono ?_
          rintro e w2 ⟨s3, m3, rfl, l3, hb, _⟩
          replace lx := lx.call hb
          replace lb := lb.call hb
          replace l1 := l1.call hb
          replace l2 := l2.call hb
          replace B := below_call B hb
          clear hb
          go_wp2_with fail
          refine (ints_t _ _ rfl (by omega) _ _ _ _ _ l3 lb).mono ?_
          rintro e w3 ⟨rfl, hb⟩
          replace lx := lx.call hb
          replace lb := lb.call hb
          replace l1 := l1.call hb
          replace l2 := l2.call hb
          replace l3 := l3.call hb
          replace B := below_call B hb
          clear hb
          go_wp2_with fail
          refine (example03_c _).mono ?_
          rintro e w4 ⟨rfl, hb⟩
          replace lx := lx.call hb
          replace lb := lb.call hb
          replace l1 := l1.call hb
          replace l2 := l2.call hb
          replace l3 := l3.call hb
          replace B := below_call B hb
          clear hb
          go_wp2
          go_ret
          exact ⟨rfl, B⟩

set_option maxRecDepth 100000 in
theorem lifted (os : Os) (started : os.Started) (H : Type) (enc : TypeId × Value → H) :
    ReturnsInHanded {} Try.checked os 9 .any (Rows.extendReturnsSpec.pre6 enc Try.prog Try.f9 Rows.extendReturnsRow.domain false) (Rows.extendReturnsSpec.post enc Try.prog Try.f9 false true false false) := by
  refine returnsInHanded_of_change (C := Try.checked) own started (by kernel_rfl) Try.func9
    (ChangeSpec.witness6 (enc := enc) (C := Try.checked) false ⟨#[], #[.slice none 0 0, .int .i64 0], []⟩ 8 (by kernel_rfl) (by kernel_rfl) (by kernel_rfl) (by kernel_rfl)) ?_
  intro W base args ds gs before hval0 hW _ _
  have hval : ∀ (j : Nat) t v, Try.f9.params[j]? = some t → args[j]? = some v → Value.okWide Try.prog W .any base t v := hval0
  have hW' := hW
  obtain ⟨p, q, hA0, hV, rfl, _, _⟩ := hW
  have hA : DataW.TrodAll enc Try.prog W 0 (fun _ => true) true Try.f9.params.toList args.toList ds p := hA0
  rw [Try.params9] at hA hval
  obtain ⟨v0, vs0, d0, ds0, p0, q0, hargs, rfl, rfl, h0, r0⟩ := trodAll_cons hA
  obtain ⟨v1, vs1, d1, ds1, p1, q1, rfl, rfl, rfl, h1, r1⟩ := trodAll_cons r0
  obtain ⟨rfl, rfl, rfl⟩ := trodAll_nil r1
  obtain rfl : args = #[v0, v1] := by cases args; simp_all
  obtain ⟨rfl, rfl⟩ := trodVars_none hV
  clear hA0 hval0
  simp only [List.append_nil] at hW'
  have l0 : ∀ x ∈ p0, x.block < W.heap.size := fun x hx => hW'.lt x (by simp [hx])
  have l1 : ∀ x ∈ p1, x.block < W.heap.size := fun x hx => hW'.lt x (by simp [hx])
  obtain ⟨s, l, m, rfl, hH0, hm0, hx0, hn0⟩ := open_intsT (hval 0 28 v0 rfl rfl) h0
  obtain ⟨st, rfl, _, _, wst⟩ := open_int Try.underlying3 (hval 1 3 v1 rfl rfl) h1
  refine (walk l st s m hn0 W hH0).mono fun e W' ⟨he, hb⟩ => ?_
  subst he
  exact ⟨_, rfl, post_low (pa := p0 ++ (p1 ++ ([]))) (pv := []) hW' (fun _ _ _ => (trodAll_cons_mk (shut_bool Try.underlying4 _) trodAll_mk0)) (fun sp hsp => (trodAll_cons_mk (trod_low laidOut (by kernel_rfl) (of_decide_eq_true (by kernel_rfl)) h0 hb l0 (fun x hx => hsp x (by simp [hx]))) (trodAll_cons_mk (trod_low laidOut (by kernel_rfl) (of_decide_eq_true (by kernel_rfl)) h1 hb l1 (fun x hx => hsp x (by simp [hx]))) trodAll_mk0))) (fun _ _ => rfl) (by simp) hb (ok_one (by kernel_rfl) rfl (okWide_bool_mk Try.underlying4 _))⟩

theorem over : Rows.extendReturnsRow.holds Try.pinned (OpenSpec.ofChange Rows.extendReturnsSpec) :=
  OpenClaim.holds_of_wide 9 Try.f9 rfl rfl rfl rfl rfl rfl rfl ⟨rfl, rfl, rfl, rfl, rfl⟩ rfl rfl rfl rfl rfl (by kernel_rfl) Try.func9 (by kernel_rfl)
    (of_decide_eq_true (by kernel_rfl)) (by unfold Func.isWrapper; first | (rw [if_pos (by decide +kernel)]; kernel_rfl) | (rw [if_neg (by decide +kernel)]; exact ⟨rfl, rfl⟩))
    (fun os started H enc _ => lifted os started H enc)

theorem proved : Rows.ExtendReturnsSaid :=
  over
#print axioms proved
end Go.Proofs.Ytpobmmdjcfdfoaa.extendReturns
