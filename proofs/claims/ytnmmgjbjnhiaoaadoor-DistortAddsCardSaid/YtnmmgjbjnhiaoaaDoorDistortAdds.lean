/-
  For all blocks, parameters and bytes the statement DistortAdds returns true; the lists read afterwards as before.
  Conditions: none beyond those of the given statement (the listed variables are tied by the card).
-/
import Derived.Test.YtnmmgjbjnhiaoaaDoorDr19
import Derived.Test.YtnmmgjbjnhiaoaaDoorTie
import Derived.Test.YtnmmgjbjnhiaoaaDoorCards
import Derived.LaidMore
import Derived.Lay
import Derived.SevenTiedAt
import Derived.Stop.Joined
set_option maxRecDepth 100000
namespace Go.Proofs.YtnmmgjbjnhiaoaaDoor.distortAdds
open Go.ChangeShapes Go.WideShapes Go.ChangeAt Go.RowKit Go.Joins Go.Deep

set_option maxHeartbeats 8000000 in
theorem walk (A B C : List Int) (sa sb sc : Option Addr) (ma mb mc : Nat) (s d at8 : Int) (W : World) (hA : HoldsI W sa A) (hB : HoldsI W sb B) (hC : HoldsI W sc C) (hr : ∀ v ∈ B, i64R v) (ca : A.length ≤ ma) (cb : B.length ≤ mb) (cc : C.length ≤ mc) (h8 : 0 ≤ at8 ∧ at8 ≤ 255) : Calls Tryd.prog 6 #[.agg #[.slice sa A.length ma, .slice sb B.length mb, .slice sc C.length mc], .agg #[.int .i64 s, .int .i64 d], .int .u8 at8] W fun e w' => e = .returned (.bool true) ∧ Below W.heap.size W w' := by
  by_cases hy : A.length ≤ 200 ∧ B.length = A.length ∧ C.length = A.length ∧ Qu.vB s d = true
  · obtain ⟨y1, y2, y3, y4⟩ := hy
    by_cases h0 : A.length = 0
    · have k := adds_0 sa sb sc ma mb mc s d at8 W y4 h8
      rw [y2, y3, h0]
      exact k
    · obtain ⟨ba, oa, rfl⟩ := holdsI_adr hA (by omega)
      obtain ⟨bb, ob, rfl⟩ := holdsI_adr hB (by omega)
      obtain ⟨bc, oc, rfl⟩ := holdsI_adr hC (by omega)
      have k := adds_y A B C A.length ma mb mc ba oa bb ob bc oc s d at8 W hA hB hC rfl y2 y3 (by omega) y1 ca (by omega) (by omega) hr y4 h8
      rw [y2, y3]
      exact k
  obtain ⟨X, hX⟩ : ∃ X, X = (W.alloc (.cells #[.slice sa A.length ma, .slice sb B.length mb, .slice sc C.length mc] 30)).alloc (.cells #[.int .i64 s, .int .i64 d] 25) := ⟨_, rfl⟩
  have hb : Below W.heap.size W X := by rw [hX]; exact below_alloc (below_alloc (Below.refl _ W) _) _
  have h1 : Blk X W.heap.size 30 #[.slice sa A.length ma, .slice sb B.length mb, .slice sc C.length mc] := by rw [hX]; exact (Blk.new W _ _).alloc _
  have h2 : Blk X (W.heap.size + 1) 25 #[.int .i64 s, .int .i64 d] := by
    have := Blk.new (W.alloc (.cells #[.slice sa A.length ma, .slice sb B.length mb, .slice sc C.length mc] 30)) 25 #[.int .i64 s, .int .i64 d]
    rw [hX]; simpa using this
  have ke := ex19_c
  have kv := vd_r s d
  have y0 : X.cell? ⟨W.heap.size, 0, none⟩ = some (.slice sa A.length ma) := h1.cell 0
  have y1 : X.cell? ⟨W.heap.size, 1, none⟩ = some (.slice sb B.length mb) := h1.cell 1
  have y2 : X.cell? ⟨W.heap.size, 2, none⟩ = some (.slice sc C.length mc) := h1.cell 2
  have y3 : X.cell? ⟨W.heap.size + 1, 0, none⟩ = some (.int .i64 s) := h2.cell 0
  have y4 : X.cell? ⟨W.heap.size + 1, 1, none⟩ = some (.int .i64 d) := h2.cell 1
  have HB := Lib.hid hb
  have HX := Lib.hid hX
  rw [hX] at y0 y1 y2 y3 y4
  clear hA hB hC hr ca cb cc h8 hb h1 h2 hX
  generalize A.length = na at *
  generalize B.length = nb at *
  generalize C.length = nc at *
  by_cases g1 : (200 : Int) < (na : Int)
  · clear hy
    go_enter Tryd.func6, Tryd.ntmps6
    go_wp2_with (first | (go_at_call 11; (with_reducible refine (ke _).mono ?_); rintro e w9 ⟨rfl, hb9⟩; have B9 := Lib.hid (below_call HB.out (by rw [HX.out]; exact hb9)); clear hb9) | fail)
    go_ret
    exact ⟨rfl, B9.out⟩
  · by_cases g2 : nb = na
    · by_cases g3 : nc = na
      · have hv : Qu.vB s d = false := by
          cases h : Qu.vB s d
          · rfl
          · exact absurd ⟨by omega, g2, g3, h⟩ hy
        rw [hv] at kv
        clear hy hv
        subst g2
        subst g3
        have t2 : ((nc : Int) != (nc : Int)) = false := by simp
        go_enter Tryd.func6, Tryd.ntmps6
        go_wp2_with (first | (go_at_call 16; (with_reducible refine (kv _).mono ?_); rintro e wn ⟨rfl, rfl⟩) | (go_at_call 11; (with_reducible refine (ke _).mono ?_); rintro e w9 ⟨rfl, hb9⟩; have B9 := Lib.hid (below_call HB.out (by rw [HX.out]; exact hb9)); clear hb9) | fail)
        go_ret
        exact ⟨rfl, B9.out⟩
      · have t2 : ((nb : Int) != (na : Int)) = false := by subst g2; simp
        have t3 : ((nc : Int) != (na : Int)) = true := by simp; omega
        clear hy g2
        go_enter Tryd.func6, Tryd.ntmps6
        go_wp2_with (first | (go_at_call 11; (with_reducible refine (ke _).mono ?_); rintro e w9 ⟨rfl, hb9⟩; have B9 := Lib.hid (below_call HB.out (by rw [HX.out]; exact hb9)); clear hb9) | fail)
        go_ret
        exact ⟨rfl, B9.out⟩
    · have t2 : ((nb : Int) != (na : Int)) = true := by simp; omega
      clear hy
      go_enter Tryd.func6, Tryd.ntmps6
      go_wp2_with (first | (go_at_call 11; (with_reducible refine (ke _).mono ?_); rintro e w9 ⟨rfl, hb9⟩; have B9 := Lib.hid (below_call HB.out (by rw [HX.out]; exact hb9)); clear hb9) | fail)
      go_ret
      exact ⟨rfl, B9.out⟩

set_option maxRecDepth 100000 in
theorem lifted (os : Os) (started : os.Started) (H : Type) (enc : TypeId × Value → H) :
    ReturnsInHanded {} Tryd.checked os 6 .any (fun w args => (Rows.distortAddsSpec.pre enc Tryd.prog Tryd.f6 Rows.distortAddsRow.domain false w args ∧ laidMetH Tryd.prog Rows.distortAddsRow.laid w) ∧ sizedMet enc Tryd.prog Tryd.f6 (OpenSpec.ofChange Rows.distortAddsSpec) false w args)
      (Rows.distortAddsSpec.post enc Tryd.prog Tryd.f6 false true false false) := by
  refine returnsInHanded_of_change_and (C := Tryd.checked) (X := fun w _ => laidMetH Tryd.prog Rows.distortAddsRow.laid w) (fun _ _ _ hh h => h.of_heap hh) own started (by kernel_rfl) Tryd.func6
    (ChangeSpec.witness_shaped (enc := enc) (C := Tryd.checked) (os := os) (X := fun w _ => laidMetH Tryd.prog Rows.distortAddsRow.laid w) false (World.laidAll Tryd.prog os Rows.distortAddsRow.laid) #[.agg #[.slice none 0 0, .slice none 0 0, .slice none 0 0], .agg #[.int .i64 0, .int .i64 0], .int .u8 0] 8 (World.laidAll_os _ _ _)
      (World.shaped_of_ZipB (by kernel_rfl) (by kernel_rfl)) (by kernel_rfl) (by kernel_rfl) (by kernel_rfl)
      (by rw [MakeChecks.laidMetH_plain _ _ _ (by kernel_rfl)]; exact laidMet_laidAll _ (by kernel_rfl) (by kernel_rfl))) ?_
  intro W base args ds gs before hval0 hW _ _ _ _
  have hval : ∀ (j : Nat) t v, Tryd.f6.params[j]? = some t → args[j]? = some v → Value.okWide Tryd.prog W .any base t v := hval0
  have hW' := hW
  obtain ⟨p, q, hA0, hV, rfl, _, _⟩ := hW
  have hA : DataW.TrodAll enc Tryd.prog W 0 (fun _ => true) true Tryd.f6.params.toList args.toList ds p := hA0
  rw [Tryd.params6] at hA hval
  obtain ⟨v0, vs0, d0, ds0, p0, q0, hargs, rfl, rfl, h0, r0⟩ := trodAll_cons hA
  obtain ⟨v1, vs1, d1, ds1, p1, q1, rfl, rfl, rfl, h1, r1⟩ := trodAll_cons r0
  obtain ⟨v2, vs2, d2, ds2, p2, q2, rfl, rfl, rfl, h2, r2⟩ := trodAll_cons r1
  obtain ⟨rfl, rfl, rfl⟩ := trodAll_nil r2
  obtain rfl : args = #[v0, v1, v2] := by cases args; simp_all
  obtain ⟨rfl, rfl⟩ := trodVars_none hV
  clear hA0 hval0
  simp only [List.append_nil] at hW'
  have l0 : ∀ x ∈ p0, x.block < W.heap.size := fun x hx => hW'.lt x (by simp [hx])
  have l1 : ∀ x ∈ p1, x.block < W.heap.size := fun x hx => hW'.lt x (by simp [hx])
  have l2 : ∀ x ∈ p2, x.block < W.heap.size := fun x hx => hW'.lt x (by simp [hx])
  obtain ⟨A0, B0, C0, sa0, sb0, sc0, ma0, mb0, mc0, hB0⟩ := open_B3c (hval 0 30 v0 rfl rfl) h0
  obtain ⟨rfl, hx0, hy0, hz0, hr0, ca0, cb0, cc0⟩ := hB0
  obtain ⟨a1, b1, rfl, ra1, rb1⟩ := open_N2 (hval 1 25 v1 rfl rfl) h1
  obtain ⟨i2, rfl, _, _, wi2⟩ := open_int Tryd.underlying5 (hval 2 5 v2 rfl rfl) h2
  refine (walk A0 B0 C0 sa0 sb0 sc0 ma0 mb0 mc0 a1 b1 i2 W hx0 hy0 hz0 hr0 ca0 cb0 cc0 (u8_of wi2)).mono fun e W' ⟨he, hb⟩ => ?_
  subst he
  exact ⟨_, rfl, post_low (pa := p0 ++ (p1 ++ (p2 ++ ([])))) (pv := []) hW' (fun _ _ _ => (trodAll_cons_mk (shut_bool Tryd.underlying4 _) trodAll_mk0)) (fun sp hsp => (trodAll_cons_mk (trod_low laidOut (by kernel_rfl) (of_decide_eq_true (by kernel_rfl)) h0 hb l0 (fun x hx => hsp x (by simp [hx]))) (trodAll_cons_mk (trod_low laidOut (by kernel_rfl) (of_decide_eq_true (by kernel_rfl)) h1 hb l1 (fun x hx => hsp x (by simp [hx]))) (trodAll_cons_mk (trod_low laidOut (by kernel_rfl) (of_decide_eq_true (by kernel_rfl)) h2 hb l2 (fun x hx => hsp x (by simp [hx]))) trodAll_mk0)))) (fun _ _ => rfl) (by simp) hb (ok_one (by kernel_rfl) rfl (okWide_bool_mk Tryd.underlying4 _))⟩

theorem over : Rows.distortAddsRow.holds Tryd.pinned (OpenSpec.ofChange Rows.distortAddsSpec) :=
  OpenClaim.holds_of_wide 6 Tryd.f6 rfl rfl rfl rfl rfl rfl rfl ⟨rfl, rfl, rfl, rfl, rfl⟩ rfl rfl rfl rfl rfl (by kernel_rfl) Tryd.func6 (by kernel_rfl)
    (of_decide_eq_true (by kernel_rfl)) (by unfold Func.isWrapper; first | (rw [if_pos (by decide +kernel)]; kernel_rfl) | (rw [if_neg (by decide +kernel)]; exact ⟨rfl, rfl⟩))
    (fun os started H enc _ => lifted os started H enc)
theorem proved : Rows.DistortAddsCardSaid :=
  Claim7.holds_tied_plain_at .later [] [.data, .data, .data] true Rows.distortAddsCard.stood.harness false over (fun _ h => by cases h) (by kernel_rfl) (fun _ h => by cases h) distortAdds_row_tie rfl ⟨rfl, rfl⟩ (by kernel_rfl) rfl
    (fun f fn hf hfn => by
      obtain rfl : f = 6 := Option.some.inj ((show Tryd.prog.funcNamed Rows.distortAddsRow.func = some 6 by kernel_rfl).symm.trans hf) |>.symm
      obtain rfl : fn = Tryd.f6 := (Option.some.inj (Tryd.func6.symm.trans hfn)).symm
      exact ⟨by kernel_rfl, fun j t ht => by
        rw [Tryd.params6] at ht
        have hm : t ∈ [30, 25, 5] := by simpa using Array.mem_of_getElem? ht
        have hall : ([30, 25, 5].all fun u => !Tryd.prog.wantsStandIn u) = true := by kernel_rfl
        exact (show Tryd.prog.wantsStandIn t = false by simpa using List.all_eq_true.1 hall t hm)⟩)
    (by kernel_rfl)
#print axioms proved
end Go.Proofs.YtnmmgjbjnhiaoaaDoor.distortAdds
