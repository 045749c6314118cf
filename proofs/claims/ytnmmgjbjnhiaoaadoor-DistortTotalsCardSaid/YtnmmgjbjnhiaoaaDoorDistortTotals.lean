/-
  For all blocks, parameters and weights the statement DistortTotals returns true; the lists read afterwards as before.
  Conditions: none beyond those of the given statement (the listed variables are tied by the card).
-/
import Derived.Test.YtnmmgjbjnhiaoaaDoorDl19
import Derived.Test.YtnmmgjbjnhiaoaaDoorTie
import Derived.Test.YtnmmgjbjnhiaoaaDoorCards
import Derived.LaidMore
import Derived.Lay
import Derived.SevenTiedAt
import Derived.Stop.Joined
set_option maxRecDepth 100000
namespace Go.Proofs.YtnmmgjbjnhiaoaaDoor.distortTotals
open Go.ChangeShapes Go.WideShapes Go.ChangeAt Go.RowKit Go.Joins Go.Deep

theorem cells5 {w : World} {g g2 : Nat} {A B C : List Int} {sa sb sc : Option Addr} {ma mb mc : Nat} {q0 q1 : Int} (h1 : Blk w g 30 #[.slice sa A.length ma, .slice sb B.length mb, .slice sc C.length mc]) (h2 : Blk w g2 25 #[.int .i64 q0, .int .i64 q1]) : w.cell? ⟨g, 0, none⟩ = some (.slice sa A.length ma) ∧ w.cell? ⟨g, 1, none⟩ = some (.slice sb B.length mb) ∧ w.cell? ⟨g, 2, none⟩ = some (.slice sc C.length mc) ∧ w.cell? ⟨g2, 0, none⟩ = some (.int .i64 q0) ∧ w.cell? ⟨g2, 1, none⟩ = some (.int .i64 q1) := ⟨h1.cell 0, h1.cell 1, h1.cell 2, h2.cell 0, h2.cell 1⟩
set_option maxHeartbeats 8000000 in
theorem walk (A B C : List Int) (sa sb sc : Option Addr) (ma mb mc : Nat) (q0 q1 wt : Int) (W : World) (hA : HoldsI W sa A) (hB : HoldsI W sb B) (hC : HoldsI W sc C) (hr : ∀ v ∈ B, i64R v) : Calls Tryd.prog 5 #[.agg #[.slice sa A.length ma, .slice sb B.length mb, .slice sc C.length mc], .agg #[.int .i64 q0, .int .i64 q1], .int .i64 wt] W fun e w' => e = .returned (.bool true) ∧ Below W.heap.size W w' := by
  obtain ⟨X, hX⟩ : ∃ X, X = (W.alloc (.cells #[.slice sa A.length ma, .slice sb B.length mb, .slice sc C.length mc] 30)).alloc (.cells #[.int .i64 q0, .int .i64 q1] 25) := ⟨_, rfl⟩
  have hb : Below W.heap.size W X := by rw [hX]; exact below_alloc (below_alloc (Below.refl _ W) _) _
  have h1 : Blk X W.heap.size 30 #[.slice sa A.length ma, .slice sb B.length mb, .slice sc C.length mc] := by rw [hX]; exact (Blk.new W _ _).alloc _
  have h2 : Blk X (W.heap.size + 1) 25 #[.int .i64 q0, .int .i64 q1] := by
    have := Blk.new (W.alloc (.cells #[.slice sa A.length ma, .slice sb B.length mb, .slice sc C.length mc] 30)) 25 #[.int .i64 q0, .int .i64 q1]
    rw [hX]; simpa using this
  have ke := ex19_c
  obtain ⟨y0, y1, y2, y3, y4⟩ := cells5 h1 h2
  have HB := Lib.hid hb
  have H1 := Lib.hid h1
  have H2 := Lib.hid h2
  have HX := Lib.hid hX
  rw [hX] at y0 y1 y2 y3 y4
  by_cases hf : A.length ≤ 5000 ∧ B.length ≤ 5000 ∧ C.length ≤ 5000
  · obtain ⟨f1, f2, f3⟩ := hf
    have k1 := fun (w : World) (hb : Below W.heap.size W w) => dtotal_c A B C sa sb sc _ _ _ ma mb mc q0 q1 wt w (hA.call hb) (hB.call hb) (hC.call hb) rfl rfl rfl hr
    have k2 := fun (w : World) (hb : Below W.heap.size W w) => rtotal_c A B C sa sb sc _ _ _ ma mb mc q0 q1 wt w (hA.call hb) (hB.call hb) (hC.call hb) rfl rfl rfl
    have g1 : ¬ (5000 : Int) < (A.length : Int) := by omega
    have g2 : ¬ (5000 : Int) < (B.length : Int) := by omega
    have g3 : ¬ (5000 : Int) < (C.length : Int) := by omega
    generalize toV A B C q0 q1 wt = tv at *
    generalize toE A B C q0 q1 wt = te at *
    have hvv : (tv == tv) = true := by simp
    have hee : (te == te) = true := by simp
    have K1 := Lib.hid (k1 X hb)
    have K2 := Lib.hid k2
    have KE := Lib.hid ke
    rw [hX] at K1
    clear k1 k2 ke hA hB hC hr hb h1 h2 hX
    go_enter Tryd.func5, Tryd.ntmps5
    go_wp2_with (first | (go_at_call 14; (with_reducible refine K1.out.mono ?_); rintro e w1 ⟨rfl, hb1⟩; have B1 := Lib.hid (show Below X.heap.size X w1 by rw [HX.out]; exact hb1); obtain ⟨y0, y1, y2, y3, y4⟩ := cells5 (H1.out.below B1.out) (H2.out.below B1.out); have B2 := Lib.hid (below_call HB.out B1.out); clear hb1) | (go_at_call 15; (with_reducible refine (K2.out _ B2.out).mono ?_); rintro e w2 ⟨rfl, hb2⟩; have B3 := Lib.hid (below_call B2.out hb2); clear hb2) | (go_at_call 11; (with_reducible refine (KE.out _).mono ?_); rintro e w9 ⟨rfl, hb9⟩; have B9 := Lib.hid (below_call B3.out hb9); clear hb9) | fail)
    go_ret
    exact ⟨rfl, B9.out⟩
  · have g : (5000 : Int) < (A.length : Int) ∨ (¬ (5000 : Int) < (A.length : Int) ∧ (5000 : Int) < (B.length : Int)) ∨ (¬ (5000 : Int) < (A.length : Int) ∧ ¬ (5000 : Int) < (B.length : Int) ∧ (5000 : Int) < (C.length : Int)) := by omega
    clear hA hB hC hr hb h1 h2 hX hf
    rcases g with g1 | ⟨g1, g2⟩ | ⟨g1, g2, g3⟩ <;>
    · go_enter Tryd.func5, Tryd.ntmps5
      go_wp2_with (first | (go_at_call 11; (with_reducible refine (ke _).mono ?_); rintro e w9 ⟨rfl, hb9⟩; have B9 := Lib.hid (below_call HB.out (by rw [HX.out]; exact hb9)); clear hb9) | fail)
      go_ret
      exact ⟨rfl, B9.out⟩

set_option maxRecDepth 100000 in
theorem lifted (os : Os) (started : os.Started) (H : Type) (enc : TypeId × Value → H) :
    ReturnsInHanded {} Tryd.checked os 5 .any (fun w args => (Rows.distortTotalsSpec.pre enc Tryd.prog Tryd.f5 Rows.distortTotalsRow.domain false w args ∧ laidMetH Tryd.prog Rows.distortTotalsRow.laid w) ∧ sizedMet enc Tryd.prog Tryd.f5 (OpenSpec.ofChange Rows.distortTotalsSpec) false w args)
      (Rows.distortTotalsSpec.post enc Tryd.prog Tryd.f5 false true false false) := by
  refine returnsInHanded_of_change_and (C := Tryd.checked) (X := fun w _ => laidMetH Tryd.prog Rows.distortTotalsRow.laid w) (fun _ _ _ hh h => h.of_heap hh) own started (by kernel_rfl) Tryd.func5
    (ChangeSpec.witness_shaped (enc := enc) (C := Tryd.checked) (os := os) (X := fun w _ => laidMetH Tryd.prog Rows.distortTotalsRow.laid w) false (World.laidAll Tryd.prog os Rows.distortTotalsRow.laid) #[.agg #[.slice none 0 0, .slice none 0 0, .slice none 0 0], .agg #[.int .i64 0, .int .i64 0], .int .i64 0] 8 (World.laidAll_os _ _ _)
      (World.shaped_of_ZipB (by kernel_rfl) (by kernel_rfl)) (by kernel_rfl) (by kernel_rfl) (by kernel_rfl)
      (by rw [MakeChecks.laidMetH_plain _ _ _ (by kernel_rfl)]; exact laidMet_laidAll _ (by kernel_rfl) (by kernel_rfl))) ?_
  intro W base args ds gs before hval0 hW _ _ _ _
  have hval : ∀ (j : Nat) t v, Tryd.f5.params[j]? = some t → args[j]? = some v → Value.okWide Tryd.prog W .any base t v := hval0
  have hW' := hW
  obtain ⟨p, q, hA0, hV, rfl, _, _⟩ := hW
  have hA : DataW.TrodAll enc Tryd.prog W 0 (fun _ => true) true Tryd.f5.params.toList args.toList ds p := hA0
  rw [Tryd.params5] at hA hval
  obtain ⟨v0, vs0, d0, ds0, p0, q0, hargs, rfl, rfl, h0, r0⟩ := trodAll_cons hA
  obtain ⟨v1, vs1, d1, ds1, p1, q1, rfl, rfl, rfl, h1, r1⟩ := trodAll_cons r0
  obtain ⟨v2, vs2, d2, ds2, p2, q2, rfl, rfl, rfl, h2, r2⟩ := trodAll_cons r1
  obtain ⟨rfl, rfl, rfl⟩ := trodAll_nil r2
  obtain rfl : args = #[v0, v1, v2] := by cases args; simp_all
  obtain ⟨rfl, rfl⟩ := trodVars_none hV
  clear hA0 hval0
  simp only [List.append_nil] at hW'
  have l0 : ∀ x ∈ p0, x.block < W.heap.size := fun x hx => hW'.lt x (by simp [hx])
  have l1 : ∀ x ∈ p1, x.block < W.heap.size := fun x hx => hW'.lt x (by simp [hx])
  have l2 : ∀ x ∈ p2, x.block < W.heap.size := fun x hx => hW'.lt x (by simp [hx])
  obtain ⟨A0, B0, C0, sa0, sb0, sc0, ma0, mb0, mc0, hB0⟩ := open_B3 (hval 0 30 v0 rfl rfl) h0
  obtain ⟨rfl, hx0, hy0, hz0, hr0⟩ := hB0
  obtain ⟨a1, b1, rfl, ra1, rb1⟩ := open_N2 (hval 1 25 v1 rfl rfl) h1
  obtain ⟨i2, rfl, _, _, wi2⟩ := open_int Tryd.underlying3 (hval 2 3 v2 rfl rfl) h2
  refine (walk A0 B0 C0 sa0 sb0 sc0 ma0 mb0 mc0 a1 b1 i2 W hx0 hy0 hz0 hr0).mono fun e W' ⟨he, hb⟩ => ?_
  subst he
  exact ⟨_, rfl, post_low (pa := p0 ++ (p1 ++ (p2 ++ ([])))) (pv := []) hW' (fun _ _ _ => (trodAll_cons_mk (shut_bool Tryd.underlying4 _) trodAll_mk0)) (fun sp hsp => (trodAll_cons_mk (trod_low laidOut (by kernel_rfl) (of_decide_eq_true (by kernel_rfl)) h0 hb l0 (fun x hx => hsp x (by simp [hx]))) (trodAll_cons_mk (trod_low laidOut (by kernel_rfl) (of_decide_eq_true (by kernel_rfl)) h1 hb l1 (fun x hx => hsp x (by simp [hx]))) (trodAll_cons_mk (trod_low laidOut (by kernel_rfl) (of_decide_eq_true (by kernel_rfl)) h2 hb l2 (fun x hx => hsp x (by simp [hx]))) trodAll_mk0)))) (fun _ _ => rfl) (by simp) hb (ok_one (by kernel_rfl) rfl (okWide_bool_mk Tryd.underlying4 _))⟩

theorem over : Rows.distortTotalsRow.holds Tryd.pinned (OpenSpec.ofChange Rows.distortTotalsSpec) :=
  OpenClaim.holds_of_wide 5 Tryd.f5 rfl rfl rfl rfl rfl rfl rfl ⟨rfl, rfl, rfl, rfl, rfl⟩ rfl rfl rfl rfl rfl (by kernel_rfl) Tryd.func5 (by kernel_rfl)
    (of_decide_eq_true (by kernel_rfl)) (by unfold Func.isWrapper; first | (rw [if_pos (by decide +kernel)]; kernel_rfl) | (rw [if_neg (by decide +kernel)]; exact ⟨rfl, rfl⟩))
    (fun os started H enc _ => lifted os started H enc)
theorem proved : Rows.DistortTotalsCardSaid :=
  Claim7.holds_tied_plain_at .later [] [.data, .data, .data] true Rows.distortTotalsCard.stood.harness false over (fun _ h => by cases h) (by kernel_rfl) (fun _ h => by cases h) distortTotals_row_tie rfl ⟨rfl, rfl⟩ (by kernel_rfl) rfl
    (fun f fn hf hfn => by
      obtain rfl : f = 5 := Option.some.inj ((show Tryd.prog.funcNamed Rows.distortTotalsRow.func = some 5 by kernel_rfl).symm.trans hf) |>.symm
      obtain rfl : fn = Tryd.f5 := (Option.some.inj (Tryd.func5.symm.trans hfn)).symm
      exact ⟨by kernel_rfl, fun j t ht => by
        rw [Tryd.params5] at ht
        have hm : t ∈ [30, 25, 3] := by simpa using Array.mem_of_getElem? ht
        have hall : ([30, 25, 3].all fun u => !Tryd.prog.wantsStandIn u) = true := by kernel_rfl
        exact (show Tryd.prog.wantsStandIn t = false by simpa using List.all_eq_true.1 hall t hm)⟩)
    (by kernel_rfl)
#print axioms proved
end Go.Proofs.YtnmmgjbjnhiaoaaDoor.distortTotals
