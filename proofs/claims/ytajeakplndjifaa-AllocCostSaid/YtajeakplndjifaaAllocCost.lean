/-
  Layer 21: P21.1: AllocCost.
  Conditions: none beyond those of the given statement.
-/
import Derived.Test.YtajeakplndjifaaBd
import Derived.Test.YtajeakplndjifaaBc
set_option maxRecDepth 100000
namespace Go.Proofs.Ytajeakplndjifaa.allocCost
open Go.ChangeShapes Go.WideShapes Go.ChangeAt Go.RowKit Go.Joins Go.Deep

theorem walk (cs : List Cv) (ch : List Int) (s t : Option Addr) (m q : Nat) (W : World) (hC : HoldsCv W s cs) (hL : HoldsI W t ch) : Calls Try.prog 3 #[.slice s cs.length m, .slice t ch.length q] W fun e w' => e = .returned (.bool true) ∧ Below W.heap.size W w' := by
  have kf := few_c s cs.length m cs W hC rfl
  have ke := fun W1 : World => ex21_c W1
  by_cases hz : fewB cs = true
  · have h40 : cs.length ≤ 40 := (of_decide_eq_true hz).1
    rw [hz] at kf
    by_cases hl : 100 < ch.length
    · have hl2 : (100 : Int) < (ch.length : Int) := by omega
      clear hC hL hz
      go_enter Try.func3, Try.ntmps3
      go_wp2_with (first | (go_at_call 9; (with_reducible refine kf.mono ?_); rintro e w1 ⟨rfl, hb1⟩; have B1 := Lib.hid hb1; clear hb1) | (go_at_call 10; (with_reducible refine (ke _).mono ?_); rintro e w2 ⟨rfl, hb2⟩; have B2 := Lib.hid (B1.out.trans (hb2.mono B1.out.size)); clear hb2) | fail)
      go_ret
      exact ⟨rfl, B2.out⟩
    · have hl2 : ¬ (100 : Int) < (ch.length : Int) := by omega
      obtain ⟨X, Y, Z, ka, kb⟩ := both_cost cs ch s t m q W hC hL (by omega)
      have hs : ∀ x : Int, (x == x) = true := fun x => by simp
      have hs0 := hs X
      have hs1 := hs Y
      have hs2 := hs Z
      clear hC hL hz hs
      go_enter Try.func3, Try.ntmps3
      go_wp2_with (first | (go_at_call 9; (with_reducible refine kf.mono ?_); rintro e w1 ⟨rfl, hb1⟩; have B1 := Lib.hid hb1; clear hb1) | (go_at_call 11; (with_reducible refine (ka _ B1.out).mono ?_); rintro e w2 ⟨rfl, hb2⟩; have B2 := Lib.hid (B1.out.trans (hb2.mono B1.out.size)); clear hb2) | (go_at_call 12; (with_reducible refine (kb _ B2.out).mono ?_); rintro e w3 ⟨rfl, hb3⟩; have B3 := Lib.hid (B2.out.trans (hb3.mono B2.out.size)); clear hb3) | (go_at_call 10; (with_reducible refine (ke _).mono ?_); rintro e w4 ⟨rfl, hb4⟩; have B4 := Lib.hid (B3.out.trans (hb4.mono B3.out.size)); clear hb4) | fail)
      go_ret
      exact ⟨rfl, B4.out⟩
  · have hz2 : fewB cs = false := by simpa using hz
    rw [hz2] at kf
    clear hC hL hz
    go_enter Try.func3, Try.ntmps3
    go_wp2_with (first | (go_at_call 9; (with_reducible refine kf.mono ?_); rintro e w1 ⟨rfl, hb1⟩; have B1 := Lib.hid hb1; clear hb1) | (go_at_call 10; (with_reducible refine (ke _).mono ?_); rintro e w2 ⟨rfl, hb2⟩; have B2 := Lib.hid (B1.out.trans (hb2.mono B1.out.size)); clear hb2) | fail)
    go_ret
    exact ⟨rfl, B2.out⟩

set_option maxRecDepth 100000 in
theorem lifted (os : Os) (started : os.Started) (H : Type) (enc : TypeId × Value → H) :
    ReturnsInHanded {} Try.checked os 3 .any (Rows.allocCostSpec.pre6 enc Try.prog Try.f3 Rows.allocCostRow.domain false) (Rows.allocCostSpec.post enc Try.prog Try.f3 false true false false) := by
  refine returnsInHanded_of_change (C := Try.checked) own started (by kernel_rfl) Try.func3
    (ChangeSpec.witness6 (enc := enc) (C := Try.checked) false ⟨#[], #[.slice none 0 0, .slice none 0 0], []⟩ 8 (by kernel_rfl) (by kernel_rfl) (by kernel_rfl) (by kernel_rfl)) ?_
  intro W base args ds gs before hval0 hW _ _
  have hval : ∀ (j : Nat) t v, Try.f3.params[j]? = some t → args[j]? = some v → Value.okWide Try.prog W .any base t v := hval0
  have hW' := hW
  obtain ⟨p, q, hA0, hV, rfl, _, _⟩ := hW
  have hA : DataW.TrodAll enc Try.prog W 0 (fun _ => true) true Try.f3.params.toList args.toList ds p := hA0
  rw [Try.params3] at hA hval
  obtain ⟨v0, vs0, d0, ds0, p0, q0, hargs, rfl, rfl, h0, r0⟩ := trodAll_cons hA
  obtain ⟨v1, vs1, d1, ds1, p1, q1, rfl, rfl, rfl, h1, r1⟩ := trodAll_cons r0
  obtain ⟨rfl, rfl, rfl⟩ := trodAll_nil r1
  obtain rfl : args = #[v0, v1] := by cases args; simp_all
  obtain ⟨rfl, rfl⟩ := trodVars_none hV
  clear hA0 hval0
  simp only [List.append_nil] at hW'
  have l0 : ∀ x ∈ p0, x.block < W.heap.size := fun x hx => hW'.lt x (by simp [hx])
  have l1 : ∀ x ∈ p1, x.block < W.heap.size := fun x hx => hW'.lt x (by simp [hx])
  obtain ⟨s0, cs0, m0, rfl, hC0⟩ := open_curves (hval 0 22 v0 rfl rfl) h0
  obtain ⟨s1, l1x, m1, rfl, hL1, _, hmx1, _⟩ := open_intsT (hval 1 23 v1 rfl rfl) h1
  refine (walk cs0 l1x s0 s1 m0 m1 W hC0 hL1).mono fun e W' ⟨he, hb⟩ => ?_
  subst he
  exact ⟨_, rfl, post_low (pa := p0 ++ (p1 ++ ([]))) (pv := []) hW' (fun _ _ _ => (trodAll_cons_mk (shut_bool Try.underlying4 _) trodAll_mk0)) (fun sp hsp => (trodAll_cons_mk (trod_low laidOut (by kernel_rfl) (of_decide_eq_true (by kernel_rfl)) h0 hb l0 (fun x hx => hsp x (by simp [hx]))) (trodAll_cons_mk (trod_low laidOut (by kernel_rfl) (of_decide_eq_true (by kernel_rfl)) h1 hb l1 (fun x hx => hsp x (by simp [hx]))) trodAll_mk0))) (fun _ _ => rfl) (by simp) hb (ok_one (by kernel_rfl) rfl (okWide_bool_mk Try.underlying4 _))⟩

theorem over : Rows.allocCostRow.holds Try.pinned (OpenSpec.ofChange Rows.allocCostSpec) :=
  OpenClaim.holds_of_wide 3 Try.f3 rfl rfl rfl rfl rfl rfl rfl ⟨rfl, rfl, rfl, rfl, rfl⟩ rfl rfl rfl rfl rfl (by kernel_rfl) Try.func3 (by kernel_rfl)
    (of_decide_eq_true (by kernel_rfl)) (by unfold Func.isWrapper; first | (rw [if_pos (by decide +kernel)]; kernel_rfl) | (rw [if_neg (by decide +kernel)]; exact ⟨rfl, rfl⟩))
    (fun os started H enc _ => lifted os started H enc)

theorem proved : Rows.AllocCostSaid :=
  over
#print axioms proved
end Go.Proofs.Ytajeakplndjifaa.allocCost
