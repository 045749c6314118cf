/-
  For all sizes and lists of calls the statement TagtreeOnce returns true; they read afterwards as before.
  Conditions: none beyond those of the given statement.
-/
import Derived.Test.YtlhncjdghpggiaaTs
import Derived.Test.YtlhncjdghpggiaaUa
set_option maxRecDepth 100000
namespace Go.Proofs.Ytlhncjdghpggiaa.tagtreeOnce
open Go.ChangeShapes Go.WideShapes Go.ChangeAt Go.RowKit Go.Joins Go.Deep

set_option maxHeartbeats 8000000 in
theorem yes (a b : Nat) (hok : okN (a : Int) (b : Int)) (l : List OpT) (s : Option Addr) (m : Nat) (W : World) (HO : HoldsT W s l) :
    Calls Try.prog 15 #[.int .i64 (a : Int), .int .i64 (b : Int), .slice s l.length m] W fun e w' => e = .returned (.bool true) ∧ Below W.heap.size W w' := by
  have n1 := fun X => tnew_yes a b hok X
  have sm := small_c (a : Int) (b : Int) l s m W HO
  have HO1 := Lib.hid HO
  clear hok HO
  go_enter Try.func15, Try.ntmps15
  go_wp2_with fail
  refine sm.mono ?_
  rintro e w1 ⟨z, rfl, hz, hb⟩
  have B1 := Lib.hid hb
  clear hb sm
  cases z with
  | false =>
    clear hz n1
    go_wp2_with fail
    refine (ex10_c _).mono ?_
    rintro e wz ⟨rfl, hb⟩
    have BZ := Lib.hid (below_call B1.out hb)
    clear hb
    go_wp2_with fail
    go_ret
    exact ⟨rfl, BZ.out⟩
  | true =>
  have HL := Lib.hid (hz rfl).2.2
  clear hz
  go_wp2_with fail
  refine (n1 _).mono ?_
  rintro e w2 ⟨rfl, hT, hb⟩
  obtain ⟨D, hD⟩ : ∃ D, D = dep a b := ⟨_, rfl⟩
  rw [← hD] at hT
  have B2 := Lib.hid (below_call B1.out hb)
  have T2 : Hid (Tr w2 W.heap.size (w1.heap.size + 1) w1.heap.size (fun i => w1.heap.size + 2 + i) a b D 0 (mkQ a b xf0 xl0 xb0)) := Lib.hid (hT.lower B1.out.size)
  clear hT hb n1 hD
  generalize w1.heap.size + 1 = A at *
  generalize (fun i => w1.heap.size + 2 + i) = nd at *
  obtain ⟨L, hLL⟩ : ∃ L, L = w1.heap.size := ⟨_, rfl⟩
  rw [← hLL] at T2
  clear hLL
  go_wp2_with fail
  go_loopw [32] (fun i wr => ∃ (k : Nat) (f : Nat → Nat → Int), k ≤ l.length ∧ i = .int .i64 (k : Int) ∧ Hid (Tr wr W.heap.size A L nd a b D 0 (mkQ a b f xl0 xb0) ∧ Below W.heap.size W wr)) (fun i _ => l.length - (intOf i).toNat)
  case atStart => exact ⟨0, xf0, Nat.zero_le _, rfl, T2.out, B2.out⟩
  case round =>
    obtain ⟨k, f, hk, rfl, hT⟩ := hrel
    by_cases hlt : k < l.length
    · obtain ⟨g, off, hs, oo⟩ := (HO1.out.call hT.out.2).at hlt
      subst hs
      obtain ⟨o0, o1, o2, o3⟩ := oo
      generalize l[k] = o at *
      obtain ⟨ok, ox, oy, ov⟩ := o
      dsimp only at *
      have hl100 := HL.out
      have hA := below_alloc (Below.refl _ wr) (.cells #[.int .i64 ok, .int .i64 ox, .int .i64 oy, .int .i64 ov] 66)
      have TA : Hid (Tr (wr.alloc (.cells #[.int .i64 ok, .int .i64 ox, .int .i64 oy, .int .i64 ov] 66)) W.heap.size A L nd a b D 0 (mkQ a b f xl0 xb0) ∧ Below W.heap.size W (wr.alloc (.cells #[.int .i64 ok, .int .i64 ox, .int .i64 oy, .int .i64 ov] 66))) := ⟨hT.out.1.below hA, below_call hT.out.2 hA⟩
      clear hA hT
      by_cases hk0 : ok = 0
      · subst hk0
        have st := set_c TA.out.1 ox oy ov
        go_wp2_with fail
        refine st.mono ?_
        rintro e w3 ⟨rfl, hT, hkf⟩
        have T3 : Hid (Tr w3 W.heap.size A L nd a b D 0 (mkQ a b (stF 0 a b f ox oy ov) xl0 xb0) ∧ Below W.heap.size W w3) := ⟨hT, TA.out.2.trans (hkf.below (fun k hk => (TA.out.1.foot k hk).1) TA.out.2.size)⟩
        clear hT hkf st o0 o1 o2 o3
        go_wp2_with fail
        go_roundw
        case rel => exact ⟨k + 1, _, by omega, by go_num, T3⟩
        case measure => simp [intOf]; omega
      · have hk1 : (ok == 0) = false := by simpa using hk0
        clear hk0
        go_wp2_with fail
        go_roundw
        case rel => exact ⟨k + 1, f, by omega, by go_num, TA⟩
        case measure => simp [intOf]; omega
    · obtain rfl : k = l.length := by omega
      have T0 := Lib.hid hT.out
      clear hT T2 B2 B1
      go_wp2_with fail
      refine (new_c _).mono ?_
      rintro e w3 ⟨ra, rfl, hW, hb⟩
      have S3 : Hid (Tw W A L ra nd a b D 0 (mkQ a b f xl0 xb0) [] w3) := ⟨T0.out.1.below hb, hW.low T0.out.2.size, Bi.bits_nil, below_call T0.out.2 hb⟩
      clear hW hb T0
      go_wp2_with fail
      go_loopw [51] (fun i wr => ∃ (k : Nat) (u : Int) (Q : Nat → Nat → Nat → Nd) (bs : List Int), k ≤ l.length ∧ i = .int .i64 (k : Int) ∧ Hid (Tw W A L ra nd a b D u Q bs wr ∧ (u = 0 ∨ u = 1) ∧ bs.length ≤ k * 1200000)) (fun i _ => l.length - (intOf i).toNat)
      case atStart => exact ⟨0, 0, _, [], Nat.zero_le _, rfl, S3.out, .inl rfl, by simp⟩
      case round =>
        obtain ⟨k, u, Q, bs, hk, rfl, hT⟩ := hrel
        by_cases hlt : k < l.length
        · obtain ⟨g, off, hs, oo⟩ := (HO1.out.call hT.out.1.below).at hlt
          subst hs
          obtain ⟨o0, o1, o2, o3⟩ := oo
          generalize l[k] = o at *
          have T0 := Lib.hid hT.out
          have hl100 := HL.out
          have SA := Lib.hid (T0.out.1.step (below_alloc (Below.refl _ wr) (.cells #[.int .i64 o.k, .int .i64 o.x, .int .i64 o.y, .int .i64 o.v] 66)))
          have BA := Lib.hid (Bo.new wr o)
          have hen := encode_c SA.out.tr SA.out.wr SA.out.bits (by have := T0.out.2.2; have := HL.out; omega) o.x o.y o.v
          have hu2 : u ≠ 2 := by have := T0.out.2.1; omega
          have ag := fun (hc : okT a b o.x o.y o.v 65536) (t2 : Int) (h0 : 0 ≤ t2) (h2 : t2 ≤ o.v) => en_again (s := bs) (D := D) SA.out.tr.qb hu2 hc h0 h2
          have UU : Hid (enU a b u o.x o.y o.v = 1 ∨ enU a b u o.x o.y o.v = u) := Lib.hid (by unfold enU; split; exact .inr rfl; exact .inl rfl)
          have EE : Hid (enE a b u o.x o.y o.v = if okT a b o.x o.y o.v 65536 then 0 else 2) := Lib.hid (by unfold enE; rw [if_neg hu2])
          have U1 : Hid (okT a b o.x o.y o.v 65536 → enU a b u o.x o.y o.v = 1) := Lib.hid (fun hc => by unfold enU; rw [if_neg (fun c => c.elim hu2 (fun d => d hc))])
          have AG := Lib.hid ag
          obtain ⟨ok, ox, oy, ov⟩ := o
          dsimp only at *
          clear hT ag hu2
          by_cases hk1 : ok = 1
          · subst hk1
            generalize hes : enS Q a b D u bs ox oy ov = s1 at *
            generalize heq : enQ Q a b D u bs ox oy ov = Q1 at *
            generalize heu : enU a b u ox oy ov = u1 at *
            clear hes heq heu
            by_cases hc : okT a b ox oy ov 65536
            · have he0 := EE.out
              rw [if_pos hc] at he0
              rw [he0] at hen
              obtain rfl := U1.out hc
              have OK := Lib.hid hc
              clear he0 hc
              go_wp2_with fail
              refine hen.mono ?_
              rintro e w4 ⟨rfl, hE⟩
              have S4 := Lib.hid (SA.out.enc hE)
              have B4 := Lib.hid (BA.out.enc SA.out.tr SA.out.wr hE)
              obtain ⟨q0, q1, q2, q3⟩ := B4.out.cells
              have l4 := len_c _ _ _ _ S4.out.1.wr
              have LN : Hid (s1.length ≤ (k + 1) * 1200000) := Lib.hid (by have := S4.out.2; have := T0.out.2.2; omega)
              have en2 := encode_c S4.out.1.tr S4.out.1.wr S4.out.1.bits (by have := LN.out; have := HL.out; omega) ox oy ov
              obtain ⟨r1, r2, r3⟩ := AG.out OK.out ov OK.out.2.1 (Int.le_refl _)
              rw [r2, r3, show enE a b 1 ox oy ov = 0 by unfold enE; rw [if_neg (by omega), if_pos OK.out], show enU a b 1 ox oy ov = 1 by unfold enU; rw [if_neg (fun c => c.elim (by omega) (fun d => d OK.out))]] at en2
              clear hen hE r1 r2 r3 o0 o1 o2 o3
              dsimp only at q0 q1 q2 q3
              go_wp2_with (first | (go_at_call 24; (with_reducible refine (l4).mono ?_); rintro e wn ⟨rfl, rfl⟩))
              refine en2.mono ?_
              rintro e w5 ⟨rfl, hE⟩
              have S5 := Lib.hid (S4.out.1.enc hE).1
              have B5 := Lib.hid (B4.out.enc S4.out.1.tr S4.out.1.wr hE)
              obtain ⟨p0, p1, p2, p3⟩ := B5.out.cells
              have hv0 := OK.out.2.1
              have hv1 := OK.out.2.2
              have en3 := encode_c S5.out.tr S5.out.wr S5.out.bits (by have := LN.out; have := HL.out; omega) ox oy (ov / 2)
              obtain ⟨r1, r2, r3⟩ := AG.out OK.out (ov / 2) (by omega) (by omega)
              rw [r2, r3, show enE a b 1 ox oy (ov / 2) = 0 by unfold enE; rw [if_neg (by omega), if_pos r1], show enU a b 1 ox oy (ov / 2) = 1 by unfold enU; rw [if_neg (fun c => c.elim (by omega) (fun d => d r1))]] at en3
              clear en2 hE r1 r2 r3 q0 q1 q2 q3 l4
              dsimp only at p0 p1 p2 p3
              go_wp2_with fail
              refine en3.mono ?_
              rintro e w6 ⟨rfl, hE⟩
              have S6 := Lib.hid (S5.out.enc hE).1
              have l6 := len_c _ _ _ _ S6.out.wr
              have hln : ((s1.length : Int) != (s1.length : Int)) = false := by simp
              clear en3 hE p0 p1 p2 p3 hv0 hv1
              go_wp2_with (first | (go_at_call 24; (with_reducible refine (l6).mono ?_); rintro e wn ⟨rfl, rfl⟩))
              go_roundw
              case rel => exact ⟨k + 1, 1, _, _, by omega, by go_num, S6.out, .inr rfl, LN.out⟩
              case measure => simp [intOf]; omega
            · have he0 := EE.out
              rw [if_neg hc] at he0
              rw [he0] at hen
              clear he0 hc
              go_wp2_with fail
              refine hen.mono ?_
              rintro e w4 ⟨rfl, hE⟩
              have S4 := Lib.hid (SA.out.enc hE)
              have F4 : Hid (Tw W A L ra nd a b D u1 Q1 s1 w4 ∧ (u1 = 0 ∨ u1 = 1) ∧ s1.length ≤ (k + 1) * 1200000) := ⟨S4.out.1, by have h1 := UU.out; have h2 := T0.out.2.1; omega, by have := S4.out.2; have := T0.out.2.2; omega⟩
              clear hen hE o0 o1 o2 o3
              go_wp2_with fail
              go_roundw
              case rel => exact ⟨k + 1, _, _, _, by omega, by go_num, F4⟩
              case measure => simp [intOf]; omega
          · have hk2 : (ok != 1) = true := by simpa using hk1
            have F4 : Hid (Tw W A L ra nd a b D u Q bs (wr.alloc (.cells #[.int .i64 ok, .int .i64 ox, .int .i64 oy, .int .i64 ov] 66)) ∧ (u = 0 ∨ u = 1) ∧ bs.length ≤ (k + 1) * 1200000) := ⟨SA.out, T0.out.2.1, Nat.le_trans T0.out.2.2 (Nat.mul_le_mul_right _ (Nat.le_succ k))⟩
            clear hk1 hen
            go_wp2_with fail
            go_roundw
            case rel => exact ⟨k + 1, _, _, _, by omega, by go_num, F4⟩
            case measure => simp [intOf]; omega
        · obtain rfl : k = l.length := by omega
          have B0 := Lib.hid hT.out.1.below
          clear hT
          go_wp2_with fail
          refine (ex10_c _).mono ?_
          rintro e wz ⟨rfl, hb⟩
          have BZ := Lib.hid (below_call B0.out hb)
          clear hb
          go_wp2_with fail
          go_ret
          exact ⟨rfl, BZ.out⟩
theorem no (w h : Int) (hok : ¬ okN w h) (l : List OpT) (s : Option Addr) (m : Nat) (W : World) (HO : HoldsT W s l) : Calls Try.prog 15 #[.int .i64 w, .int .i64 h, .slice s l.length m] W fun e w' => e = .returned (.bool true) ∧ Below W.heap.size W w' := by
  have n1 := tnew_no w h hok
  have sm := small_c w h l s m W HO
  have hne := chE_ne hok
  generalize chE w h = ce at *
  clear hok HO
  go_enter Try.func15, Try.ntmps15
  go_wp2_with fail
  refine sm.mono ?_
  rintro e w1 ⟨z, rfl, hz, hb⟩
  have B1 := Lib.hid hb
  clear hb sm hz
  cases z with
  | false =>
    go_wp2_with fail
    refine (ex10_c _).mono ?_
    rintro e wz ⟨rfl, hb⟩
    have BZ := Lib.hid (below_call B1.out hb)
    clear hb
    go_wp2_with fail
    go_ret
    exact ⟨rfl, BZ.out⟩
  | true =>
    go_wp2_with (first | (go_at_call 37; (with_reducible refine (n1 _).mono ?_); rintro e wn ⟨rfl, rfl⟩))
    refine (ex10_c _).mono ?_
    rintro e wz ⟨rfl, hb⟩
    have BZ := Lib.hid (below_call B1.out hb)
    clear hb
    go_wp2_with fail
    go_ret
    exact ⟨rfl, BZ.out⟩
theorem walk (w h : Int) (l : List OpT) (s : Option Addr) (m : Nat) (W : World) (HO : HoldsT W s l) : Calls Try.prog 15 #[.int .i64 w, .int .i64 h, .slice s l.length m] W fun e w' => e = .returned (.bool true) ∧ Below W.heap.size W w' := by
  by_cases hok : okN w h
  · obtain ⟨a, rfl⟩ : ∃ n : Nat, w = n := ⟨w.toNat, by unfold okN at hok; omega⟩
    obtain ⟨b, rfl⟩ : ∃ n : Nat, h = n := ⟨h.toNat, by unfold okN at hok; omega⟩
    exact yes a b hok l s m W HO
  · exact no w h hok l s m W HO

set_option maxRecDepth 100000 in
theorem lifted (os : Os) (started : os.Started) (H : Type) (enc : TypeId × Value → H) :
    ReturnsInHanded {} Try.checked os 15 .any (Rows.tagtreeOnceSpec.pre6 enc Try.prog Try.f15 Rows.tagtreeOnceRow.domain false) (Rows.tagtreeOnceSpec.post enc Try.prog Try.f15 false true false false) := by
  refine returnsInHanded_of_change (C := Try.checked) own started (by kernel_rfl) Try.func15
    (ChangeSpec.witness6 (enc := enc) (C := Try.checked) false ⟨#[], #[.int .i64 0, .int .i64 0, .slice none 0 0], []⟩ 8 (by kernel_rfl) (by kernel_rfl) (by kernel_rfl) (by kernel_rfl)) ?_
  intro W base args ds gs before hval0 hW _ _
  have hval : ∀ (j : Nat) t v, Try.f15.params[j]? = some t → args[j]? = some v → Value.okWide Try.prog W .any base t v := hval0
  have hW' := hW
  obtain ⟨p, q, hA0, hV, rfl, _, _⟩ := hW
  have hA : DataW.TrodAll enc Try.prog W 0 (fun _ => true) true Try.f15.params.toList args.toList ds p := hA0
  rw [Try.params15] at hA hval
  obtain ⟨v0, vs0, d0, ds0, p0, q0, hargs, rfl, rfl, h0, r0⟩ := trodAll_cons hA
  obtain ⟨v1, vs1, d1, ds1, p1, q1, rfl, rfl, rfl, h1, r1⟩ := trodAll_cons r0
  obtain ⟨v2, vs2, d2, ds2, p2, q2, rfl, rfl, rfl, h2, r2⟩ := trodAll_cons r1
  obtain ⟨rfl, rfl, rfl⟩ := trodAll_nil r2
  obtain rfl : args = #[v0, v1, v2] := by cases args; simp_all
  obtain ⟨rfl, rfl⟩ := trodVars_none hV
  clear hA0 hval0
  simp only [List.append_nil] at hW'
  have l0 : ∀ x ∈ p0, x.block < W.heap.size := fun x hx => hW'.lt x (by simp [hx])
  have l1 : ∀ x ∈ p1, x.block < W.heap.size := fun x hx => hW'.lt x (by simp [hx])
  have l2 : ∀ x ∈ p2, x.block < W.heap.size := fun x hx => hW'.lt x (by simp [hx])
  obtain ⟨i0, rfl, _, _, wi0⟩ := open_int Try.underlying3 (hval 0 3 v0 rfl rfl) h0
  obtain ⟨i1, rfl, _, _, wi1⟩ := open_int Try.underlying3 (hval 1 3 v1 rfl rfl) h1
  obtain ⟨s2, o2, m2, rfl, hO2⟩ := open_ops (hval 2 63 v2 rfl rfl) h2
  refine (walk i0 i1 o2 s2 m2 W hO2).mono fun e W' ⟨he, hb⟩ => ?_
  subst he
  exact ⟨_, rfl, post_low (pa := p0 ++ (p1 ++ (p2 ++ ([])))) (pv := []) hW' (fun _ _ _ => (trodAll_cons_mk (shut_bool Try.underlying4 _) trodAll_mk0)) (fun sp hsp => (trodAll_cons_mk (trod_low laidOut (by kernel_rfl) (of_decide_eq_true (by kernel_rfl)) h0 hb l0 (fun x hx => hsp x (by simp [hx]))) (trodAll_cons_mk (trod_low laidOut (by kernel_rfl) (of_decide_eq_true (by kernel_rfl)) h1 hb l1 (fun x hx => hsp x (by simp [hx]))) (trodAll_cons_mk (trod_low laidOut (by kernel_rfl) (of_decide_eq_true (by kernel_rfl)) h2 hb l2 (fun x hx => hsp x (by simp [hx]))) trodAll_mk0)))) (fun _ _ => rfl) (by simp) hb (ok_one (by kernel_rfl) rfl (okWide_bool_mk Try.underlying4 _))⟩

theorem over : Rows.tagtreeOnceRow.holds Try.pinned (OpenSpec.ofChange Rows.tagtreeOnceSpec) :=
  OpenClaim.holds_of_wide 15 Try.f15 rfl rfl rfl rfl rfl rfl rfl ⟨rfl, rfl, rfl, rfl, rfl⟩ rfl rfl rfl rfl rfl (by kernel_rfl) Try.func15 (by kernel_rfl)
    (of_decide_eq_true (by kernel_rfl)) (by unfold Func.isWrapper; first | (rw [if_pos (by decide +kernel)]; kernel_rfl) | (rw [if_neg (by decide +kernel)]; exact ⟨rfl, rfl⟩))
    (fun os started H enc _ => lifted os started H enc)

theorem proved : Rows.TagtreeOnceSaid :=
  over
#print axioms proved
end Go.Proofs.Ytlhncjdghpggiaa.tagtreeOnce
