/-
  For all sizes, lists of calls and places the statement TagtreeClones returns true; they read afterwards as before.
  Conditions: none beyond those of the given statement.
-/
import Derived.Test.YtaddendclipkkaaCc
import Derived.Test.YtaddendclipkkaaUa
set_option maxRecDepth 100000
namespace Go.Proofs.Ytaddendclipkkaa.tagtreeClones
open Go.ChangeShapes Go.WideShapes Go.ChangeAt Go.RowKit Go.Joins Go.Deep

theorem nilPP (w : World) : (binOp .eql 45 (.pointer none) (.pointer none)).run Try.prog w = .ok (.bool true) w := by
  have h : ∀ d : Nat, (Op.equalIn (d + 1) 45 (.pointer none) (.pointer none)).run Try.prog w = .ok true w := fun d => by
    simp [Op.equalIn, run_underlying (P := Try.prog) (t := 45) Try.underlying45]
  simp only [binOp]
  simp [Op.equal, Op.maxDepth, h 9999]
set_option maxHeartbeats 8000000 in
theorem yes (a b : Nat) (hok : okN (a : Int) (b : Int)) (l : List OpT) (s : Option Addr) (m : Nat) (at' : Int) (W : World) (HO : HoldsT W s l) :
    Calls Try.prog 10 #[.int .i64 (a : Int), .int .i64 (b : Int), .slice s l.length m, .int .i64 at'] W fun e w' => e = .returned (.bool true) ∧ Below W.heap.size W w' := by
  have n1 := fun X => tnew_yes a b hok X
  have sm := small_c (a : Int) (b : Int) l s m W HO
  have HO1 := Lib.hid HO
  have nt := nilT
  have np := nilPP
  clear hok HO
  go_enter Try.func10, Try.ntmps10
  go_wp2_with fail
  refine sm.mono ?_
  rintro e w1 ⟨z, rfl, hz, hb⟩
  have B1 := Lib.hid hb
  clear hb sm
  cases z with
  | false =>
    clear hz n1
    go_wp2_with fail
    refine (ex10_c _).mono ?_
    rintro e wz ⟨rfl, hb⟩
    have BZ := Lib.hid (below_call B1.out hb)
    clear hb
    go_wp2_with fail
    go_ret
    exact ⟨rfl, BZ.out⟩
  | true =>
  have HL := Lib.hid (hz rfl).2.2
  clear hz
  go_wp2_with fail
  refine (n1 _).mono ?_
  rintro e w2 ⟨rfl, hT, hb⟩
  obtain ⟨D, hD⟩ : ∃ D, D = dep a b := ⟨_, rfl⟩
  rw [← hD] at hT
  have T2 : Hid (To W (w1.heap.size + 1) w1.heap.size (fun i => w1.heap.size + 2 + i) a b D 0 (mkQ a b xf0 xl0 xb0) w2) := Lib.hid ⟨hT.lower B1.out.size, below_call B1.out hb⟩
  clear hT hb n1 hD
  generalize w1.heap.size + 1 = A at *
  generalize (fun i => w1.heap.size + 2 + i) = nd at *
  obtain ⟨L, hLL⟩ : ∃ L, L = w1.heap.size := ⟨_, rfl⟩
  rw [← hLL] at T2
  clear hLL
  have J0 : Hid (Jv a b 0 (mkQ a b xf0 xl0 xb0)) := Lib.hid (fun _ => ⟨_, rfl⟩)
  go_wp2_with fail
  go_loopw [11, 31] (fun cv i wr => ∃ (k : Nat) (u : Int) (Q : Nat → Nat → Nat → Nd), k ≤ l.length ∧ i = .int .i64 (k : Int) ∧ Hid (Jv a b u Q) ∧ ((cv = .pointer none ∧ Hid (To W A L nd a b D u Q wr)) ∨ ∃ A' L' nd', cv = .pointer (some ⟨A', 0, none⟩) ∧ Hid (Tt W A' L' nd' A L nd a b D u Q u Q wr))) (fun _ i _ => l.length - (intOf i).toNat)
  case atStart => exact ⟨0, 0, _, Nat.zero_le _, rfl, J0.out, .inl ⟨rfl, T2.out⟩⟩
  case round =>
    obtain ⟨k, u, Q, hk, rfl, hJ, hT⟩ := hrel
    by_cases hlt : k < l.length
    · have hBW : Below W.heap.size W wr := by
        rcases hT with ⟨_, h⟩ | ⟨_, _, _, _, h⟩
        · exact h.out.below
        · exact h.out.below
      obtain ⟨g, off, hs, oo⟩ := (HO1.out.call hBW).at hlt
      subst hs
      obtain ⟨o0, o1, o2, o3⟩ := oo
      generalize l[k] = o at *
      obtain ⟨ok, ox, oy, ov⟩ := o
      dsimp only at *
      have hl100 := HL.out
      have hA := below_alloc (Below.refl _ wr) (.cells #[.int .i64 ok, .int .i64 ox, .int .i64 oy, .int .i64 ov] 56)
      have BX := Lib.hid (Bo.new wr ⟨ok, ox, oy, ov⟩)
      have HA := Lib.hid hA
      have q := (Bo.new wr ⟨ok, ox, oy, ov⟩).cells
      obtain ⟨q0, q1, q2, q3⟩ := q
      dsimp only at q0 q1 q2 q3
      clear hA hBW
      have last : ∀ (A' L' : Nat) (nd' : Nat → Nat) (X : World), Hid (Tt W A' L' nd' A L nd a b D u Q u Q X) → Calls Try.prog 43 #[.pointer (some ⟨A', 0, none⟩), .pointer (some ⟨A, 0, none⟩), .agg #[.int .i64 ok, .int .i64 ox, .int .i64 oy, .int .i64 ov]] X fun e w' => e = .returned (.bool true) ∧ ∃ u' Q', Jv a b u' Q' ∧ Tt W A' L' nd' A L nd a b D u' Q' u' Q' w' := fun A' L' nd' X h => alike_c h.out hJ.out ok ox oy ov
      have LAST := Lib.hid last
      clear last
      rcases hT with ⟨rfl, hT⟩ | ⟨A', L', nd', rfl, hT⟩
      · have TA := Lib.hid (hT.out.step HA.out)
        have al := alone_c TA.out hJ.out ok ox oy ov
        clear hT
        by_cases hat : (k : Int) = at'
        · subst hat
          have hcl := clone_c TA.out.a
          have AR := Lib.hid (fun (X : World) (h : Below (wr.alloc (.cells #[.int .i64 ok, .int .i64 ox, .int .i64 oy, .int .i64 ov] 56)).heap.size _ X) => (BX.out.below h).cells)
          clear al HA
          go_wp2_with fail
          refine hcl.mono ?_
          rintro e w3 ⟨A', L', nd', rfl, hT', hb⟩
          have hT3 := TA.out.step hb
          have T3 : Hid (Tt W A' L' nd' A L nd a b D u Q u Q w3) := Lib.hid ⟨hT'.lower TA.out.below.size, hT3.a, fun j h1 h2 => by
            have x1 := (hT'.foot j h1).1
            have x2 := (TA.out.a.foot j h2).2
            omega, hT3.below⟩
          obtain ⟨q0, q1, q2, q3⟩ := AR.out w3 hb
          have la := LAST.out A' L' nd' w3 T3
          clear hT' hb hT3 hcl o0 o1 o2 o3 AR TA
          go_wp2_with fail
          refine la.mono ?_
          rintro e w4 ⟨rfl, u', Q', hJ', hT'⟩
          have JN := Lib.hid hJ'
          have TN := Lib.hid hT'
          clear la hJ' hT' q0 q1 q2 q3
          go_wp2_with fail
          go_roundw
          case rel => exact ⟨k + 1, u', Q', by omega, by go_num, JN.out, .inr ⟨A', L', nd', rfl, TN.out⟩⟩
          case measure => simp [intOf]; omega
        · have hat2 : ((k : Int) == at') = false := by simpa using hat
          clear hat
          go_wp2_with fail
          refine al.mono ?_
          rintro e w4 ⟨rfl, u', Q', hJ', hT'⟩
          have JN := Lib.hid hJ'
          have TN := Lib.hid hT'
          clear al hJ' hT' o0 o1 o2 o3 q0 q1 q2 q3
          go_wp2_with fail
          go_roundw
          case rel => exact ⟨k + 1, u', Q', by omega, by go_num, JN.out, .inl ⟨rfl, TN.out⟩⟩
          case measure => simp [intOf]; omega
      · have TA := Lib.hid (hT.out.step HA.out)
        have la := LAST.out A' L' nd' _ TA
        clear hT
        by_cases hat : (k : Int) = at'
        · subst hat
          have hcl := clone_c TA.out.b
          have AR := Lib.hid (fun (X : World) (h : Below (wr.alloc (.cells #[.int .i64 ok, .int .i64 ox, .int .i64 oy, .int .i64 ov] 56)).heap.size _ X) => (BX.out.below h).cells)
          clear la HA
          go_wp2_with fail
          refine hcl.mono ?_
          rintro e w3 ⟨A2, L2, n2, rfl, hT', hb⟩
          have hT3 := TA.out.step hb
          have T3 : Hid (Tt W A2 L2 n2 A L nd a b D u Q u Q w3) := Lib.hid ⟨hT'.lower TA.out.below.size, hT3.b, fun j h1 h2 => by
            have x1 := (hT'.foot j h1).1
            have x2 := (TA.out.b.foot j h2).2
            omega, hT3.below⟩
          obtain ⟨q0, q1, q2, q3⟩ := AR.out w3 hb
          have la := LAST.out A2 L2 n2 w3 T3
          clear hT' hb hT3 hcl o0 o1 o2 o3 AR TA
          go_wp2_with fail
          refine la.mono ?_
          rintro e w4 ⟨rfl, u', Q', hJ', hT'⟩
          have JN := Lib.hid hJ'
          have TN := Lib.hid hT'
          clear la hJ' hT' q0 q1 q2 q3
          go_wp2_with fail
          go_roundw
          case rel => exact ⟨k + 1, u', Q', by omega, by go_num, JN.out, .inr ⟨A2, L2, n2, rfl, TN.out⟩⟩
          case measure => simp [intOf]; omega
        · have hat2 : ((k : Int) == at') = false := by simpa using hat
          clear hat
          go_wp2_with fail
          refine la.mono ?_
          rintro e w4 ⟨rfl, u', Q', hJ', hT'⟩
          have JN := Lib.hid hJ'
          have TN := Lib.hid hT'
          clear la hJ' hT' o0 o1 o2 o3 q0 q1 q2 q3
          go_wp2_with fail
          go_roundw
          case rel => exact ⟨k + 1, u', Q', by omega, by go_num, JN.out, .inr ⟨A', L', nd', rfl, TN.out⟩⟩
          case measure => simp [intOf]; omega
    · obtain rfl : k = l.length := by omega
      have BL : Hid (Below W.heap.size W wr) := by
        rcases hT with ⟨_, h⟩ | ⟨_, _, _, _, h⟩
        · exact h.out.below
        · exact h.out.below
      clear hT
      go_wp2_with fail
      refine (ex10_c _).mono ?_
      rintro e wz ⟨rfl, hb⟩
      have BZ := Lib.hid (below_call BL.out hb)
      clear hb
      go_wp2_with fail
      go_ret
      exact ⟨rfl, BZ.out⟩
theorem no (w h : Int) (hok : ¬ okN w h) (l : List OpT) (s : Option Addr) (m : Nat) (at' : Int) (W : World) (HO : HoldsT W s l) : Calls Try.prog 10 #[.int .i64 w, .int .i64 h, .slice s l.length m, .int .i64 at'] W fun e w' => e = .returned (.bool true) ∧ Below W.heap.size W w' := by
  have n1 := tnew_no w h hok
  have sm := small_c w h l s m W HO
  have hne := chE_ne hok
  generalize chE w h = ce at *
  clear hok HO
  go_enter Try.func10, Try.ntmps10
  go_wp2_with fail
  refine sm.mono ?_
  rintro e w1 ⟨z, rfl, hz, hb⟩
  have B1 := Lib.hid hb
  clear hb sm hz
  cases z with
  | false =>
    go_wp2_with fail
    refine (ex10_c _).mono ?_
    rintro e wz ⟨rfl, hb⟩
    have BZ := Lib.hid (below_call B1.out hb)
    clear hb
    go_wp2_with fail
    go_ret
    exact ⟨rfl, BZ.out⟩
  | true =>
    go_wp2_with (first | (go_at_call 27; (with_reducible refine (n1 _).mono ?_); rintro e wn ⟨rfl, rfl⟩))
    refine (ex10_c _).mono ?_
    rintro e wz ⟨rfl, hb⟩
    have BZ := Lib.hid (below_call B1.out hb)
    clear hb
    go_wp2_with fail
    go_ret
    exact ⟨rfl, BZ.out⟩
theorem walk (w h : Int) (l : List OpT) (s : Option Addr) (m : Nat) (at' : Int) (W : World) (HO : HoldsT W s l) : Calls Try.prog 10 #[.int .i64 w, .int .i64 h, .slice s l.length m, .int .i64 at'] W fun e w' => e = .returned (.bool true) ∧ Below W.heap.size W w' := by
  by_cases hok : okN w h
  · obtain ⟨a, rfl⟩ : ∃ n : Nat, w = n := ⟨w.toNat, by unfold okN at hok; omega⟩
    obtain ⟨b, rfl⟩ : ∃ n : Nat, h = n := ⟨h.toNat, by unfold okN at hok; omega⟩
    exact yes a b hok l s m at' W HO
  · exact no w h hok l s m at' W HO

set_option maxRecDepth 100000 in
theorem lifted (os : Os) (started : os.Started) (H : Type) (enc : TypeId × Value → H) :
    ReturnsInHanded {} Try.checked os 10 .any (Rows.tagtreeClonesSpec.pre6 enc Try.prog Try.f10 Rows.tagtreeClonesRow.domain false) (Rows.tagtreeClonesSpec.post enc Try.prog Try.f10 false true false false) := by
  refine returnsInHanded_of_change (C := Try.checked) own started (by kernel_rfl) Try.func10
    (ChangeSpec.witness6 (enc := enc) (C := Try.checked) false ⟨#[], #[.int .i64 0, .int .i64 0, .slice none 0 0, .int .i64 0], []⟩ 8 (by kernel_rfl) (by kernel_rfl) (by kernel_rfl) (by kernel_rfl)) ?_
  intro W base args ds gs before hval0 hW _ _
  have hval : ∀ (j : Nat) t v, Try.f10.params[j]? = some t → args[j]? = some v → Value.okWide Try.prog W .any base t v := hval0
  have hW' := hW
  obtain ⟨p, q, hA0, hV, rfl, _, _⟩ := hW
  have hA : DataW.TrodAll enc Try.prog W 0 (fun _ => true) true Try.f10.params.toList args.toList ds p := hA0
  rw [Try.params10] at hA hval
  obtain ⟨v0, vs0, d0, ds0, p0, q0, hargs, rfl, rfl, h0, r0⟩ := trodAll_cons hA
  obtain ⟨v1, vs1, d1, ds1, p1, q1, rfl, rfl, rfl, h1, r1⟩ := trodAll_cons r0
  obtain ⟨v2, vs2, d2, ds2, p2, q2, rfl, rfl, rfl, h2, r2⟩ := trodAll_cons r1
  obtain ⟨v3, vs3, d3, ds3, p3, q3, rfl, rfl, rfl, h3, r3⟩ := trodAll_cons r2
  obtain ⟨rfl, rfl, rfl⟩ := trodAll_nil r3
  obtain rfl : args = #[v0, v1, v2, v3] := by cases args; simp_all
  obtain ⟨rfl, rfl⟩ := trodVars_none hV
  clear hA0 hval0
  simp only [List.append_nil] at hW'
  have l0 : ∀ x ∈ p0, x.block < W.heap.size := fun x hx => hW'.lt x (by simp [hx])
  have l1 : ∀ x ∈ p1, x.block < W.heap.size := fun x hx => hW'.lt x (by simp [hx])
  have l2 : ∀ x ∈ p2, x.block < W.heap.size := fun x hx => hW'.lt x (by simp [hx])
  have l3 : ∀ x ∈ p3, x.block < W.heap.size := fun x hx => hW'.lt x (by simp [hx])
  obtain ⟨i0, rfl, _, _, wi0⟩ := open_int Try.underlying3 (hval 0 3 v0 rfl rfl) h0
  obtain ⟨i1, rfl, _, _, wi1⟩ := open_int Try.underlying3 (hval 1 3 v1 rfl rfl) h1
  obtain ⟨s2, o2, m2, rfl, hO2⟩ := open_ops (hval 2 53 v2 rfl rfl) h2
  obtain ⟨i3, rfl, _, _, wi3⟩ := open_int Try.underlying3 (hval 3 3 v3 rfl rfl) h3
  refine (walk i0 i1 o2 s2 m2 i3 W hO2).mono fun e W' ⟨he, hb⟩ => ?_
  subst he
  exact ⟨_, rfl, post_low (pa := p0 ++ (p1 ++ (p2 ++ (p3 ++ ([]))))) (pv := []) hW' (fun _ _ _ => (trodAll_cons_mk (shut_bool Try.underlying4 _) trodAll_mk0)) (fun sp hsp => (trodAll_cons_mk (trod_low laidOut (by kernel_rfl) (of_decide_eq_true (by kernel_rfl)) h0 hb l0 (fun x hx => hsp x (by simp [hx]))) (trodAll_cons_mk (trod_low laidOut (by kernel_rfl) (of_decide_eq_true (by kernel_rfl)) h1 hb l1 (fun x hx => hsp x (by simp [hx]))) (trodAll_cons_mk (trod_low laidOut (by kernel_rfl) (of_decide_eq_true (by kernel_rfl)) h2 hb l2 (fun x hx => hsp x (by simp [hx]))) (trodAll_cons_mk (trod_low laidOut (by kernel_rfl) (of_decide_eq_true (by kernel_rfl)) h3 hb l3 (fun x hx => hsp x (by simp [hx]))) trodAll_mk0))))) (fun _ _ => rfl) (by simp) hb (ok_one (by kernel_rfl) rfl (okWide_bool_mk Try.underlying4 _))⟩

theorem over : Rows.tagtreeClonesRow.holds Try.pinned (OpenSpec.ofChange Rows.tagtreeClonesSpec) :=
  OpenClaim.holds_of_wide 10 Try.f10 rfl rfl rfl rfl rfl rfl rfl ⟨rfl, rfl, rfl, rfl, rfl⟩ rfl rfl rfl rfl rfl (by kernel_rfl) Try.func10 (by kernel_rfl)
    (of_decide_eq_true (by kernel_rfl)) (by unfold Func.isWrapper; first | (rw [if_pos (by decide +kernel)]; kernel_rfl) | (rw [if_neg (by decide +kernel)]; exact ⟨rfl, rfl⟩))
    (fun os started H enc _ => lifted os started H enc)

theorem proved : Rows.TagtreeClonesSaid :=
  over
#print axioms proved
end Go.Proofs.Ytaddendclipkkaa.tagtreeClones
