/-
  For every call and both kinds of receiver the statement BitioNobody returns true; the arguments read afterwards as before.
  Conditions: none beyond those of the given statement.
-/
import Derived.Test.YtdhjmbjpigiadaaNob
set_option maxRecDepth 100000
namespace Go.Proofs.Ytdhjmbjpigiadaa.bitioNobody
open Go.ChangeShapes Go.WideShapes Go.ChangeAt Go.RowKit Go.Joins Go.Deep

set_option maxRecDepth 100000 in
set_option maxHeartbeats 4000000 in
theorem walk (k v n : Int) (z : Bool) (w : World) :
    Calls Try.prog 9 #[.agg #[.int .i64 k, .int .i64 v, .int .i64 n], .bool z] w fun e w' => e = .returned (.bool true) ∧ Below w.heap.size w w' := by
  have a3 := and_m k 2 4 rfl (by decide) 3 (by decide)
  have a7 := and_m k 3 8 rfl (by decide) 7 (by decide)
  cases z with
  | false =>
    have o0 : Blk (w.alloc (.cells #[.int .i64 k, .int .i64 v, .int .i64 n] 30)) w.heap.size 30 #[.int .i64 k, .int .i64 v, .int .i64 n] := Blk.new w _ _
    have B0 : Below w.heap.size w (w.alloc (.cells #[.int .i64 k, .int .i64 v, .int .i64 n] 30)) := (Below.refl _ _).alloc (Nat.le_refl _) _
    go_enter Try.func9, Try.ntmps9
    go_upto_region 5 with fail
    obtain ⟨g0, hg0⟩ : ∃ g, g = w.heap.size := ⟨_, rfl⟩
    have HS : Hid (w.heap.size ≤ g0) := Nat.le_of_eq hg0.symm
    rw [← hg0] at o0
    rw [← hg0]
    generalize w.alloc (.cells #[.int .i64 k, .int .i64 v, .int .i64 n] 30) = W0 at *
    have NW : Qw none W0 := .inl rfl
    have NR : Qr none W0 := .inl rfl
    clear hg0
    obtain ⟨c0, c1, c2⟩ := op_open o0
    have HO := Lib.hid o0
    have HNW := Lib.hid NW
    have HNR := Lib.hid NR
    have HB0 := Lib.hid B0
    clear o0 NW NR B0
    go_cut [7, 8] (fun s7 s8 wx => ∃ g h, s7 = .pointer (some ⟨g, 0, none⟩) ∧ s8 = .pointer (some ⟨h, 0, none⟩) ∧ Hid (Nb w none none g0 g h k k k v n wx))
    case first =>
      have e0 := fun X => (HO.out.alloc X).cell 0
      have e1 := fun X => (HO.out.alloc X).cell 1
      have e2 := fun X => (HO.out.alloc X).cell 2
      have f0 := fun X Y => ((HO.out.alloc X).alloc Y).cell 0
      have f1 := fun X Y => ((HO.out.alloc X).alloc Y).cell 1
      have f2 := fun X Y => ((HO.out.alloc X).alloc Y).cell 2
      simp only [List.getElem?_toArray, List.getElem?_cons_zero, List.getElem?_cons_succ] at e0 e1 e2 f0 f1 f2
      have hlt := HO.out.lt
      have n1 : g0 ≠ W0.heap.size := by omega
      have n2 : g0 ≠ W0.heap.size + 1 := by omega
      have n3 : W0.heap.size ≠ g0 := by omega
      have n4 : W0.heap.size + 1 ≠ g0 := by omega
      go_region
      all_goals
        go_wp2_with fail
        go_meet
        first
        | exact ⟨_, _, rfl, rfl, nb_1 HB0.out HNW.out HNR.out HO.out⟩
        | exact ⟨_, _, rfl, rfl, (nb_1 HB0.out HNW.out HNR.out HO.out).swap⟩
    case rest =>
      obtain ⟨g, h, rfl, rfl, HN⟩ := hcut
      go_upto_region 6 with fail
      have N := HN.out
      have d0 : wc.cell? ⟨g0, 0, none⟩ = some (.int .i64 k) := N.oo.cell 0
      have d1 : wc.cell? ⟨g, 0, none⟩ = some (.int .i64 k) := N.og.cell 0
      have d2 : wc.cell? ⟨h, 0, none⟩ = some (.int .i64 k) := N.oh.cell 0
      have d3 := N.og.free
      have d4 := N.oh.free
      have d5 := N.ne
      have d6 := N.ng
      have d7 := N.nh
      have m1 := N.ne.symm
      have m2 := N.ng.symm
      have m3 := N.nh.symm
      have hk8 : Int.tmod (k % 8) 5 = k % 8 % 5 := Int.tmod_eq_emod_of_nonneg (by omega)
      have hkw : IntKind.i64.wrap (k % 8 % 5) = k % 8 % 5 := IntWalk.i64_in _ (by omega)
      have b4 : 0 ≤ k % 4 ∧ k % 4 < 4 := by omega
      have b5 : 0 ≤ k % 8 % 5 ∧ k % 8 % 5 < 5 := by omega
      clear N c0 c1 c2
      go_cut [] (fun wy => Hid (Nb w none none g0 g h k (k % 4) (k % 8 % 5) v n wy))
      case first =>
        go_region
        all_goals
          go_wp2_with fail
          go_meet
          first
          | exact (((HN.out.setg _).swap.setg _).swap).drew
          | exact ((HN.out.swap.setg _).swap.setg _).drew
      case rest =>
        have N := hcut
        have HK4 := Lib.hid b4
        have HK5 := Lib.hid b5
        clear d0 d1 d2 d3 d4 d5 d6 d7 m1 m2 m3 hk8 hkw HN a3 a7
        generalize k % 4 = K4 at *
        generalize k % 8 % 5 = K5 at *
        have c0 := op_open N.out.og
        have c1 := op_open N.out.oh
        have rd := nread _ K5 v n _ N.out.nr.no HK5.out
        go_wp2_with (first | (go_at_call 31; (with_reducible refine rd.mono ?_); rintro e x1 ⟨rfl, hb1⟩; have N1 := Lib.hid (N.out.step hb1); have c2 := op_open N1.out.og) | (go_at_call 22; (with_reducible refine (nwrite _ K4 v n _ N1.out.nw.no HK4.out).mono ?_); rintro e x2 ⟨rfl, hb2⟩; have N2 := Lib.hid (N1.out.step hb2)) | (go_at_call 24; (with_reducible refine (nlen _ _ N2.out.nw.no).mono ?_); rintro e wn ⟨rfl, rfl⟩) | (go_at_call 27; (with_reducible refine (nbytes _ _ N2.out.nw.no).mono ?_); rintro e wn ⟨rfl, rfl⟩) | (go_at_call 19; refine (example09_c _).mono ?_; rintro e x5 ⟨rfl, hb5⟩))
        go_ret
        exact ⟨rfl, below_call N2.out.below hb5⟩
  | true =>
    have o0 : Blk (((w.alloc (.cells #[.int .i64 k, .int .i64 v, .int .i64 n] 30)).alloc (.cells #[.pointer none, .slice none 0 0, .int .i64 0, .int .i64 0] 51)).alloc (.cells #[.pointer none, .slice none 0 0, .int .i64 0] 53)) w.heap.size 30 #[.int .i64 k, .int .i64 v, .int .i64 n] := ((Blk.new w _ _).alloc _).alloc _
    have B0 : Below w.heap.size w (((w.alloc (.cells #[.int .i64 k, .int .i64 v, .int .i64 n] 30)).alloc (.cells #[.pointer none, .slice none 0 0, .int .i64 0, .int .i64 0] 51)).alloc (.cells #[.pointer none, .slice none 0 0, .int .i64 0] 53)) := below_alloc (below_alloc (below_alloc (Below.refl _ _) _) _) _
    have NW : Qw (some ⟨w.heap.size + 1, 0, none⟩) (((w.alloc (.cells #[.int .i64 k, .int .i64 v, .int .i64 n] 30)).alloc (.cells #[.pointer none, .slice none 0 0, .int .i64 0, .int .i64 0] 51)).alloc (.cells #[.pointer none, .slice none 0 0, .int .i64 0] 53)) := by
      have := Blk.new (w.alloc (.cells #[.int .i64 k, .int .i64 v, .int .i64 n] 30)) 51 #[.pointer none, .slice none 0 0, .int .i64 0, .int .i64 0]
      have e : (w.alloc (.cells #[.int .i64 k, .int .i64 v, .int .i64 n] 30)).heap.size = w.heap.size + 1 := by simp
      rw [e] at this
      exact .inr ⟨_, rfl, this.alloc _⟩
    have NR : Qr (some ⟨w.heap.size + 1 + 1, 0, none⟩) (((w.alloc (.cells #[.int .i64 k, .int .i64 v, .int .i64 n] 30)).alloc (.cells #[.pointer none, .slice none 0 0, .int .i64 0, .int .i64 0] 51)).alloc (.cells #[.pointer none, .slice none 0 0, .int .i64 0] 53)) := by
      have := Blk.new ((w.alloc (.cells #[.int .i64 k, .int .i64 v, .int .i64 n] 30)).alloc (.cells #[.pointer none, .slice none 0 0, .int .i64 0, .int .i64 0] 51)) 53 #[.pointer none, .slice none 0 0, .int .i64 0]
      have e : ((w.alloc (.cells #[.int .i64 k, .int .i64 v, .int .i64 n] 30)).alloc (.cells #[.pointer none, .slice none 0 0, .int .i64 0, .int .i64 0] 51)).heap.size = w.heap.size + 1 + 1 := by simp
      rw [e] at this
      exact .inr ⟨_, rfl, this⟩
    go_enter Try.func9, Try.ntmps9
    go_upto_region 5 with fail
    obtain ⟨g0, hg0⟩ : ∃ g, g = w.heap.size := ⟨_, rfl⟩
    have HS : Hid (w.heap.size ≤ g0) := Nat.le_of_eq hg0.symm
    obtain ⟨A, hA⟩ : ∃ g, g = w.heap.size + 1 := ⟨_, rfl⟩
    obtain ⟨C, hC⟩ : ∃ g, g = w.heap.size + 1 + 1 := ⟨_, rfl⟩
    rw [← hA] at NW
    rw [← hC] at NR
    rw [← hg0] at o0
    rw [← hC, ← hA, ← hg0]
    generalize ((w.alloc (.cells #[.int .i64 k, .int .i64 v, .int .i64 n] 30)).alloc (.cells #[.pointer none, .slice none 0 0, .int .i64 0, .int .i64 0] 51)).alloc (.cells #[.pointer none, .slice none 0 0, .int .i64 0] 53) = W0 at *
    clear hA hC
    clear hg0
    obtain ⟨c0, c1, c2⟩ := op_open o0
    have HO := Lib.hid o0
    have HNW := Lib.hid NW
    have HNR := Lib.hid NR
    have HB0 := Lib.hid B0
    clear o0 NW NR B0
    go_cut [7, 8] (fun s7 s8 wx => ∃ g h, s7 = .pointer (some ⟨g, 0, none⟩) ∧ s8 = .pointer (some ⟨h, 0, none⟩) ∧ Hid (Nb w (some ⟨A, 0, none⟩) (some ⟨C, 0, none⟩) g0 g h k k k v n wx))
    case first =>
      have e0 := fun X => (HO.out.alloc X).cell 0
      have e1 := fun X => (HO.out.alloc X).cell 1
      have e2 := fun X => (HO.out.alloc X).cell 2
      have f0 := fun X Y => ((HO.out.alloc X).alloc Y).cell 0
      have f1 := fun X Y => ((HO.out.alloc X).alloc Y).cell 1
      have f2 := fun X Y => ((HO.out.alloc X).alloc Y).cell 2
      simp only [List.getElem?_toArray, List.getElem?_cons_zero, List.getElem?_cons_succ] at e0 e1 e2 f0 f1 f2
      have hlt := HO.out.lt
      have n1 : g0 ≠ W0.heap.size := by omega
      have n2 : g0 ≠ W0.heap.size + 1 := by omega
      have n3 : W0.heap.size ≠ g0 := by omega
      have n4 : W0.heap.size + 1 ≠ g0 := by omega
      go_region
      all_goals
        go_wp2_with fail
        go_meet
        first
        | exact ⟨_, _, rfl, rfl, nb_1 HB0.out HNW.out HNR.out HO.out⟩
        | exact ⟨_, _, rfl, rfl, (nb_1 HB0.out HNW.out HNR.out HO.out).swap⟩
    case rest =>
      obtain ⟨g, h, rfl, rfl, HN⟩ := hcut
      go_upto_region 6 with fail
      have N := HN.out
      have d0 : wc.cell? ⟨g0, 0, none⟩ = some (.int .i64 k) := N.oo.cell 0
      have d1 : wc.cell? ⟨g, 0, none⟩ = some (.int .i64 k) := N.og.cell 0
      have d2 : wc.cell? ⟨h, 0, none⟩ = some (.int .i64 k) := N.oh.cell 0
      have d3 := N.og.free
      have d4 := N.oh.free
      have d5 := N.ne
      have d6 := N.ng
      have d7 := N.nh
      have m1 := N.ne.symm
      have m2 := N.ng.symm
      have m3 := N.nh.symm
      have hk8 : Int.tmod (k % 8) 5 = k % 8 % 5 := Int.tmod_eq_emod_of_nonneg (by omega)
      have hkw : IntKind.i64.wrap (k % 8 % 5) = k % 8 % 5 := IntWalk.i64_in _ (by omega)
      have b4 : 0 ≤ k % 4 ∧ k % 4 < 4 := by omega
      have b5 : 0 ≤ k % 8 % 5 ∧ k % 8 % 5 < 5 := by omega
      clear N c0 c1 c2
      go_cut [] (fun wy => Hid (Nb w (some ⟨A, 0, none⟩) (some ⟨C, 0, none⟩) g0 g h k (k % 4) (k % 8 % 5) v n wy))
      case first =>
        go_region
        all_goals
          go_wp2_with fail
          go_meet
          first
          | exact (((HN.out.setg _).swap.setg _).swap).drew
          | exact ((HN.out.swap.setg _).swap.setg _).drew
      case rest =>
        have N := hcut
        have HK4 := Lib.hid b4
        have HK5 := Lib.hid b5
        clear d0 d1 d2 d3 d4 d5 d6 d7 m1 m2 m3 hk8 hkw HN a3 a7
        generalize k % 4 = K4 at *
        generalize k % 8 % 5 = K5 at *
        have c0 := op_open N.out.og
        have c1 := op_open N.out.oh
        have rd := nread _ K5 v n _ N.out.nr.no HK5.out
        go_wp2_with (first | (go_at_call 31; (with_reducible refine rd.mono ?_); rintro e x1 ⟨rfl, hb1⟩; have N1 := Lib.hid (N.out.step hb1); have c2 := op_open N1.out.og) | (go_at_call 22; (with_reducible refine (nwrite _ K4 v n _ N1.out.nw.no HK4.out).mono ?_); rintro e x2 ⟨rfl, hb2⟩; have N2 := Lib.hid (N1.out.step hb2)) | (go_at_call 24; (with_reducible refine (nlen _ _ N2.out.nw.no).mono ?_); rintro e wn ⟨rfl, rfl⟩) | (go_at_call 27; (with_reducible refine (nbytes _ _ N2.out.nw.no).mono ?_); rintro e wn ⟨rfl, rfl⟩) | (go_at_call 19; refine (example09_c _).mono ?_; rintro e x5 ⟨rfl, hb5⟩))
        go_ret
        exact ⟨rfl, below_call N2.out.below hb5⟩

set_option maxRecDepth 100000 in
theorem lifted (os : Os) (started : os.Started) (H : Type) (enc : TypeId × Value → H) :
    ReturnsInHanded {} Try.checked os 9 .any (Rows.bitioNobodySpec.pre6 enc Try.prog Try.f9 Rows.bitioNobodyRow.domain false) (Rows.bitioNobodySpec.post enc Try.prog Try.f9 false true false false) := by
  refine returnsInHanded_of_change (C := Try.checked) own started (by kernel_rfl) Try.func9
    (ChangeSpec.witness6 (enc := enc) (C := Try.checked) false ⟨#[], #[.agg #[.int .i64 0, .int .i64 0, .int .i64 0], .bool false], []⟩ 8 (by kernel_rfl) (by kernel_rfl) (by kernel_rfl) (by kernel_rfl)) ?_
  intro W base args ds gs before hval0 hW _ _
  have hval : ∀ (j : Nat) t v, Try.f9.params[j]? = some t → args[j]? = some v → Value.okWide Try.prog W .any base t v := hval0
  have hW' := hW
  obtain ⟨p, q, hA0, hV, rfl, _, _⟩ := hW
  have hA : DataW.TrodAll enc Try.prog W 0 (fun _ => true) true Try.f9.params.toList args.toList ds p := hA0
  rw [Try.params9] at hA hval
  obtain ⟨v0, vs0, d0, ds0, p0, q0, hargs, rfl, rfl, h0, r0⟩ := trodAll_cons hA
  obtain ⟨v1, vs1, d1, ds1, p1, q1, rfl, rfl, rfl, h1, r1⟩ := trodAll_cons r0
  obtain ⟨rfl, rfl, rfl⟩ := trodAll_nil r1
  obtain rfl : args = #[v0, v1] := by cases args; simp_all
  obtain ⟨rfl, rfl⟩ := trodVars_none hV
  clear hA0 hval0
  simp only [List.append_nil] at hW'
  have l0 : ∀ x ∈ p0, x.block < W.heap.size := fun x hx => hW'.lt x (by simp [hx])
  have l1 : ∀ x ∈ p1, x.block < W.heap.size := fun x hx => hW'.lt x (by simp [hx])
  obtain ⟨k0, x0, n0, rfl, _⟩ := open_op (hval 0 30 v0 rfl rfl) h0
  obtain ⟨z1, rfl, _⟩ := open_bool Try.underlying4 (hval 1 4 v1 rfl rfl) h1
  refine (walk k0 x0 n0 z1 W).mono fun e W' ⟨he, hb⟩ => ?_
  subst he
  exact ⟨_, rfl, post_low (pa := p0 ++ (p1 ++ ([]))) (pv := []) hW' (fun _ _ _ => (trodAll_cons_mk (shut_bool Try.underlying4 _) trodAll_mk0)) (fun sp hsp => (trodAll_cons_mk (trod_low laidOut (by kernel_rfl) (of_decide_eq_true (by kernel_rfl)) h0 hb l0 (fun x hx => hsp x (by simp [hx]))) (trodAll_cons_mk (trod_low laidOut (by kernel_rfl) (of_decide_eq_true (by kernel_rfl)) h1 hb l1 (fun x hx => hsp x (by simp [hx]))) trodAll_mk0))) (fun _ _ => rfl) (by simp) hb (ok_one (by kernel_rfl) rfl (okWide_bool_mk Try.underlying4 _))⟩

theorem over : Rows.bitioNobodyRow.holds Try.pinned (OpenSpec.ofChange Rows.bitioNobodySpec) :=
  OpenClaim.holds_of_wide 9 Try.f9 rfl rfl rfl rfl rfl rfl rfl ⟨rfl, rfl, rfl, rfl, rfl⟩ rfl rfl rfl rfl rfl (by kernel_rfl) Try.func9 (by kernel_rfl)
    (of_decide_eq_true (by kernel_rfl)) (by unfold Func.isWrapper; first | (rw [if_pos (by decide +kernel)]; kernel_rfl) | (rw [if_neg (by decide +kernel)]; exact ⟨rfl, rfl⟩))
    (fun os started H enc _ => lifted os started H enc)

theorem proved : Rows.BitioNobodySaid :=
  over
#print axioms proved
end Go.Proofs.Ytdhjmbjpigiadaa.bitioNobody
