/-
  Layer 21: P21.5: AllocNested.
  Conditions: none beyond those of the given statement.
-/
import Derived.Test.YtajeakplndjifaaBd
import Derived.Test.YtajeakplndjifaaBc
import Derived.Test.YtajeakplndjifaaBe
set_option maxRecDepth 100000
namespace Go.Proofs.Ytajeakplndjifaa.allocNested
open Go.ChangeShapes Go.WideShapes Go.ChangeAt Go.RowKit Go.Joins Go.Deep

set_option maxHeartbeats 2000000 in
theorem walk (cs : List Cv) (x y : Int) (s : Option Addr) (m : Nat) (W : World) (hC : HoldsCv W s cs) : Calls Try.prog 8 #[.slice s cs.length m, .int .i64 x, .int .i64 y] W fun e w' => e = .returned (.bool true) ∧ Below W.heap.size W w' := by
  have kf := few_c s cs.length m cs W hC rfl
  have ke := fun W1 : World => ex21_c W1
  by_cases hz : fewB cs = true
  · have h40 : cs.length ≤ 40 := (of_decide_eq_true hz).1
    rw [hz] at kf
    clear hz
    by_cases hx : x < 0
    · clear hC
      go_enter Try.func8, Try.ntmps8
      go_wp2_with (first | (go_at_call 9; (with_reducible refine kf.mono ?_); rintro e w1 ⟨rfl, hb1⟩; have B1 := Lib.hid hb1; clear hb1) | (go_at_call 10; (with_reducible refine (ke _).mono ?_); rintro e w2 ⟨rfl, hb2⟩; have B2 := Lib.hid (B1.out.trans (hb2.mono B1.out.size)); clear hb2) | fail)
      go_ret
      exact ⟨rfl, B2.out⟩
    · by_cases hy : y < x
      · clear hC
        go_enter Try.func8, Try.ntmps8
        go_wp2_with (first | (go_at_call 9; (with_reducible refine kf.mono ?_); rintro e w1 ⟨rfl, hb1⟩; have B1 := Lib.hid hb1; clear hb1) | (go_at_call 10; (with_reducible refine (ke _).mono ?_); rintro e w2 ⟨rfl, hb2⟩; have B2 := Lib.hid (B1.out.trans (hb2.mono B1.out.size)); clear hb2) | fail)
        go_ret
        exact ⟨rfl, B2.out⟩
      · by_cases hok : okC cs
        · have kv := fun (W1 : World) (h : Below W.heap.size W W1) => vcurves_c s m cs.length cs W1 (hC.below h (Nat.le_refl _)) rfl (by omega) 0 ⟨fun _ => rfl, fun q => absurd hok q⟩
          have k1 := fun (W1 : World) (h : Below W.heap.size W W1) => choose_y s cs.length m x cs W1 (hC.below h (Nat.le_refl _)) rfl hok (by omega)
          have k2 := fun (W1 : World) (h : Below W.heap.size W W1) => choose_y s cs.length m y cs W1 (hC.below h (Nat.le_refl _)) rfl hok (by omega)
          have k3 := fun (W1 : World) (h : Below W.heap.size W W1) => choose_y s cs.length m (-1) cs W1 (hC.below h (Nat.le_refl _)) rfl hok (by omega)
          simp only [chs_len] at k1 k2 k3
          have NE := fun (j : Nat) (hj : j < cs.length) => nested hok (show 0 ≤ x by omega) (show x ≤ y by omega) hj
          have NEST := Lib.hid NE
          have lx := chs_len cs x
          have ly := chs_len cs y
          have lz := chs_len cs (-1)
          obtain ⟨la, hla⟩ : ∃ l, l = chs cs x := ⟨_, rfl⟩
          obtain ⟨lb, hlb⟩ : ∃ l, l = chs cs y := ⟨_, rfl⟩
          obtain ⟨lc, hlc⟩ : ∃ l, l = chs cs (-1) := ⟨_, rfl⟩
          rw [← hla] at k1 NEST lx
          rw [← hlb] at k2 NEST ly
          rw [← hlc] at k3 NEST lz
          have HLN := Lib.hid (And.intro lx (And.intro ly lz))
          obtain ⟨n, hn⟩ : ∃ n, n = cs.length := ⟨_, rfl⟩
          have hself : ((n : Int) != (n : Int)) = false := by simp
          have HN := Lib.hid hn
          have HC := Lib.hid hC
          have HOK := Lib.hid hok
          have n40 : n ≤ 40 := by omega
          rw [← hn] at kf kv k1 k2 k3 ⊢
          clear hC hok hla hlb hlc lx ly lz h40 NE hn
          go_enter Try.func8, Try.ntmps8
          go_wp2_with (first | (go_at_call 9; (with_reducible refine kf.mono ?_); rintro e w1 ⟨rfl, hb1⟩; have B1 := Lib.hid hb1; clear hb1) | (go_at_call 20; (with_reducible refine (kv _ B1.out).mono ?_); rintro e w2 ⟨rfl, hb2⟩; have B2 := Lib.hid (B1.out.trans (hb2.mono B1.out.size)); clear hb2) | (go_at_call 13; (with_reducible refine (k1 _ B2.out).mono ?_); rintro e w3 ⟨g1, rfl, hd, hb3⟩; have B3 := Lib.hid (B2.out.trans (hb3.mono B2.out.size)); have D1 := Lib.hid hd; clear hb3 hd k1) | (go_at_call 13; (with_reducible refine (k2 _ B3.out).mono ?_); rintro e w4 ⟨g2, rfl, hd, hb4⟩; have B4 := Lib.hid (B3.out.trans (hb4.mono B3.out.size)); have D2 := Lib.hid (And.intro (D1.out.below hb4) hd); clear hb4 hd k2) | (go_at_call 13; (with_reducible refine (k3 _ B4.out).mono ?_); rintro e w5 ⟨g3, rfl, hd, hb5⟩; have B5 := Lib.hid (B4.out.trans (hb5.mono B4.out.size)); have D3 := Lib.hid (And.intro (D2.out.1.below hb5) (And.intro (D2.out.2.below hb5) hd)); clear hb5 hd k3) | fail)
          go_loopw [81] (fun i wr => ∃ k : Nat, k ≤ n ∧ i = .int .i64 (k : Int) ∧ Hid (Below w5.heap.size w5 wr)) (fun i _ => n - (intOf i).toNat)
          case atStart => exact ⟨0, Nat.zero_le _, rfl, Lib.hid (Below.refl _ _)⟩
          case round =>
            obtain ⟨k, hk, rfl, hB⟩ := hrel
            obtain ⟨w6, rfl⟩ : ∃ w6 : World, w6 = wr := ⟨_, rfl⟩
            have BB := B5.out.trans (hB.out.mono B5.out.size)
            by_cases hlt : k < n
            · have hkc : k < cs.length := by have := HN.out; omega
              obtain ⟨b0, off, sr, sd, mr, md, rfl, c0, c1, -, -⟩ := (HC.out.below BB (Nat.le_refl _)).at hkc
              obtain ⟨n1, n2, n3, n4⟩ := NEST.out k hkc
              have hv := HOK.out.2 k hkc
              have r1 := hv.2.1
              have r2 := hv.2.2.1
              have e1 := (D3.out.1.below hB.out).cell k
              have e2 := (D3.out.2.1.below hB.out).cell k
              have e3 := (D3.out.2.2.below hB.out).cell k
              rw [cI_get (by rw [HLN.out.1]; exact hkc)] at e1
              rw [cI_get (by rw [HLN.out.2.1]; exact hkc)] at e2
              rw [cI_get (by rw [HLN.out.2.2]; exact hkc)] at e3
              clear hv hkc BB
              generalize la.getD k 0 = x1 at *
              generalize lb.getD k 0 = x2 at *
              generalize lc.getD k 0 = x3 at *
              generalize (cs.getD k ([], [])).1.length = r at *
              generalize (cs.getD k ([], [])).2.length = d at *
              have t1 : ¬ x1 < 0 := by omega
              have t2 : ¬ x2 < x1 := by omega
              have t3 : ¬ x3 < x2 := by omega
              have t4 : IntKind.i64.wrap ((r : Int) - 1) = x3 := by rw [IntWalk.i64_left]; unfold wrap64; omega
              have t5 : (x3 != x3) = false := by simp
              clear n1 n2 n3 n4 r1 r2 c1
              go_wp2_with fail
              go_quiet (fail)
              go_wp2_with fail
              go_roundw
              case rel => exact ⟨k + 1, by omega, by go_num, below_drewN hB.out _⟩
              case measure => simp [intOf]; omega
            · obtain rfl : k = n := by omega
              have B6 := Lib.hid BB
              clear BB
              go_wp2_with (first | (go_at_call 10; (with_reducible refine (ke _).mono ?_); rintro e w7 ⟨rfl, hb7⟩; have B7 := Lib.hid (B6.out.trans (hb7.mono B6.out.size)); clear hb7) | fail)
              go_ret
              exact ⟨rfl, B7.out⟩
        · have kv := fun (W1 : World) (h : Below W.heap.size W W1) => vcurves_c s m cs.length cs W1 (hC.below h (Nat.le_refl _)) rfl (by omega) 1 ⟨fun q => absurd q hok, fun _ => rfl⟩
          clear hC hok
          go_enter Try.func8, Try.ntmps8
          go_wp2_with (first | (go_at_call 9; (with_reducible refine kf.mono ?_); rintro e w1 ⟨rfl, hb1⟩; have B1 := Lib.hid hb1; clear hb1) | (go_at_call 20; (with_reducible refine (kv _ B1.out).mono ?_); rintro e w2 ⟨rfl, hb2⟩; have B2 := Lib.hid (B1.out.trans (hb2.mono B1.out.size)); clear hb2) | (go_at_call 10; (with_reducible refine (ke _).mono ?_); rintro e w3 ⟨rfl, hb3⟩; have B3 := Lib.hid (B2.out.trans (hb3.mono B2.out.size)); clear hb3) | fail)
          go_ret
          exact ⟨rfl, B3.out⟩
  · have hz2 : fewB cs = false := by simpa using hz
    rw [hz2] at kf
    clear hC hz
    go_enter Try.func8, Try.ntmps8
    go_wp2_with (first | (go_at_call 9; (with_reducible refine kf.mono ?_); rintro e w1 ⟨rfl, hb1⟩; have B1 := Lib.hid hb1; clear hb1) | (go_at_call 10; (with_reducible refine (ke _).mono ?_); rintro e w2 ⟨rfl, hb2⟩; have B2 := Lib.hid (B1.out.trans (hb2.mono B1.out.size)); clear hb2) | fail)
    go_ret
    exact ⟨rfl, B2.out⟩

set_option maxRecDepth 100000 in
theorem lifted (os : Os) (started : os.Started) (H : Type) (enc : TypeId × Value → H) :
    ReturnsInHanded {} Try.checked os 8 .any (Rows.allocNestedSpec.pre6 enc Try.prog Try.f8 Rows.allocNestedRow.domain false) (Rows.allocNestedSpec.post enc Try.prog Try.f8 false true false false) := by
  refine returnsInHanded_of_change (C := Try.checked) own started (by kernel_rfl) Try.func8
    (ChangeSpec.witness6 (enc := enc) (C := Try.checked) false ⟨#[], #[.slice none 0 0, .int .i64 0, .int .i64 0], []⟩ 8 (by kernel_rfl) (by kernel_rfl) (by kernel_rfl) (by kernel_rfl)) ?_
  intro W base args ds gs before hval0 hW _ _
  have hval : ∀ (j : Nat) t v, Try.f8.params[j]? = some t → args[j]? = some v → Value.okWide Try.prog W .any base t v := hval0
  have hW' := hW
  obtain ⟨p, q, hA0, hV, rfl, _, _⟩ := hW
  have hA : DataW.TrodAll enc Try.prog W 0 (fun _ => true) true Try.f8.params.toList args.toList ds p := hA0
  rw [Try.params8] at hA hval
  obtain ⟨v0, vs0, d0, ds0, p0, q0, hargs, rfl, rfl, h0, r0⟩ := trodAll_cons hA
  obtain ⟨v1, vs1, d1, ds1, p1, q1, rfl, rfl, rfl, h1, r1⟩ := trodAll_cons r0
  obtain ⟨v2, vs2, d2, ds2, p2, q2, rfl, rfl, rfl, h2, r2⟩ := trodAll_cons r1
  obtain ⟨rfl, rfl, rfl⟩ := trodAll_nil r2
  obtain rfl : args = #[v0, v1, v2] := by cases args; simp_all
  obtain ⟨rfl, rfl⟩ := trodVars_none hV
  clear hA0 hval0
  simp only [List.append_nil] at hW'
  have l0 : ∀ x ∈ p0, x.block < W.heap.size := fun x hx => hW'.lt x (by simp [hx])
  have l1 : ∀ x ∈ p1, x.block < W.heap.size := fun x hx => hW'.lt x (by simp [hx])
  have l2 : ∀ x ∈ p2, x.block < W.heap.size := fun x hx => hW'.lt x (by simp [hx])
  obtain ⟨s0, cs0, m0, rfl, hC0⟩ := open_curves (hval 0 22 v0 rfl rfl) h0
  obtain ⟨i1, rfl, _, _, wi1⟩ := open_int Try.underlying3 (hval 1 3 v1 rfl rfl) h1
  obtain ⟨i2, rfl, _, _, wi2⟩ := open_int Try.underlying3 (hval 2 3 v2 rfl rfl) h2
  refine (walk cs0 i1 i2 s0 m0 W hC0).mono fun e W' ⟨he, hb⟩ => ?_
  subst he
  exact ⟨_, rfl, post_low (pa := p0 ++ (p1 ++ (p2 ++ ([])))) (pv := []) hW' (fun _ _ _ => (trodAll_cons_mk (shut_bool Try.underlying4 _) trodAll_mk0)) (fun sp hsp => (trodAll_cons_mk (trod_low laidOut (by kernel_rfl) (of_decide_eq_true (by kernel_rfl)) h0 hb l0 (fun x hx => hsp x (by simp [hx]))) (trodAll_cons_mk (trod_low laidOut (by kernel_rfl) (of_decide_eq_true (by kernel_rfl)) h1 hb l1 (fun x hx => hsp x (by simp [hx]))) (trodAll_cons_mk (trod_low laidOut (by kernel_rfl) (of_decide_eq_true (by kernel_rfl)) h2 hb l2 (fun x hx => hsp x (by simp [hx]))) trodAll_mk0)))) (fun _ _ => rfl) (by simp) hb (ok_one (by kernel_rfl) rfl (okWide_bool_mk Try.underlying4 _))⟩

theorem over : Rows.allocNestedRow.holds Try.pinned (OpenSpec.ofChange Rows.allocNestedSpec) :=
  OpenClaim.holds_of_wide 8 Try.f8 rfl rfl rfl rfl rfl rfl rfl ⟨rfl, rfl, rfl, rfl, rfl⟩ rfl rfl rfl rfl rfl (by kernel_rfl) Try.func8 (by kernel_rfl)
    (of_decide_eq_true (by kernel_rfl)) (by unfold Func.isWrapper; first | (rw [if_pos (by decide +kernel)]; kernel_rfl) | (rw [if_neg (by decide +kernel)]; exact ⟨rfl, rfl⟩))
    (fun os started H enc _ => lifted os started H enc)

theorem proved : Rows.AllocNestedSaid :=
  over
#print axioms proved
end Go.Proofs.Ytajeakplndjifaa.allocNested
