/-
  For all signals x, integers start and kernels k the statement LiftStays returns true (a signal that Forward does not accept, or of more than 200 samples, is left alone), and its arguments read afterwards as before.
  Conditions: none beyond those of the given statement.
-/
import Derived.Test.YtpobmmdjcfdfoaaFrameB
namespace Go.Proofs.Ytpobmmdjcfdfoaa.liftStays
open Go.ChangeShapes Go.WideShapes Go.ChangeAt Go.RowKit Go.Joins Go.Deep

set_option maxRecDepth 100000 in
set_option maxHeartbeats 2000000 in
theorem walk (l : List Int) (st kn : Int) (s : Option Addr) (m : Nat) (hs : s = none → l.length = 0 ∧ m = 0) (w : World) (hH : HoldsI w s l) :
    Calls Try.prog 15 #[.slice s l.length m, .int .i64 st, .int .i64 kn] w fun e w' => e = .returned (.bool true) ∧ Below w.heap.size w w' := by
  cases hva : vaB l st kn with
  | false =>
    have B := Below.refl w.heap.size w
    go_enter Try.func15, Try.ntmps15
    go_wp2_with fail
    refine (va_r _ _ _ _ _ _ hH).mono ?_
    rintro e wn ⟨rfl, rfl⟩
    go_wp2_with fail
    refine (example04_c _).mono ?_
    rintro e w1 ⟨rfl, hb⟩
    replace B := below_call B hb
    clear hb
    go_wp2
    go_ret
    exact ⟨rfl, B⟩
  | true =>
    have hf := va_fw hva
    obtain ⟨⟨hl2, _, _⟩, hkn, hw⟩ := va_iff.1 hva
    have hmx := hmx
    have hkk := k_iff.1 hkn
    obtain ⟨le1, le2⟩ := split_le (fw_sp (kn := kn) hf.2)
    have HW : Hid (∀ b, 0 ≤ b → Ex.within b l → Ex.within (Ex.lbI b kn) (Ex.splitE st (Ex.fwdL st l kn)) ∧ Ex.within (Ex.hbI b kn) (Ex.splitO st (Ex.fwdL st l kn))) := fun b hb hwb => fwd_few hkn hb hwb
    have cf := fun (w : World) (a : HoldsI w s l) => fwd_cyes l st kn s m w hf.1 hf.2 hs a
    generalize Ex.splitE st (Ex.fwdL st l kn) = E at *
    generalize Ex.splitO st (Ex.fwdL st l kn) = O at *
    go_enter Try.func15, Try.ntmps15
    go_wp2_with (go_at_call 41; refine (va_r _ _ _ _ _ _ hH).mono ?_; rintro e wn ⟨rfl, rfl⟩)
    go_loopw [7, 21] (fun u i wr => ∃ (k : Nat) (b : Int), k ≤ l.length ∧ i = .int .i64 k ∧ u = .int .i64 b ∧ 0 ≤ b ∧ b ≤ 281474976710656 ∧ (∀ j (hj : j < l.length), j < k → -b ≤ l[j] ∧ l[j] ≤ b) ∧ w = wr) (fun _ i _ => l.length - (intOf i).toNat)
    case atStart => exact ⟨0, 0, Nat.zero_le _, rfl, rfl, by decide, by decide, fun j _ h => absurd h (Nat.not_lt_zero _), rfl⟩
    case round =>
      obtain ⟨k, b, hk, rfl, rfl, b0, b1, hall, rfl⟩ := hrel
      by_cases hlt : k < l.length
      · rcases hH with rfl | ⟨bb, off, rfl, hr⟩
        · simp at hlt
        have y0 := hr k hlt
        have hki : (k : Int) < (l.length : Int) := by omega
        have hV := hw _ (List.getElem_mem hlt)
        have HV : Hid (∀ j (hj : j < l.length), j < k + 1 → -(max b (max l[k] (-l[k]))) ≤ l[j] ∧ l[j] ≤ max b (max l[k] (-l[k]))) := fun j hj hjk => by
          by_cases e : j = k
          · subst e; omega
          · have := hall j hj (by omega); omega
        clear hall hw
        generalize l[k] = V at *
        have w1 : IntKind.i64.wrap (-V) = -V := IntWalk.i64_in _ (by omega)
        have w2 : IntKind.i64.wrap ((k : Int) + 1) = (k : Int) + 1 := IntWalk.i64_in _ (by omega)
        have HN : Hid (0 ≤ max b (max V (-V)) ∧ max b (max V (-V)) ≤ 281474976710656) := by constructor <;> omega
        clear hV
        go_wp2
        go_roundw
        case rel => exact ⟨k + 1, _, by omega, by go_num, rfl, HN.out.1, HN.out.2, HV.out, by first | trivial | rfl⟩
        case measure => simp [intOf]; omega
      · obtain rfl : k = l.length := by omega
        obtain ⟨f1, f2⟩ := HW.out b b0 fun v hv => by
          obtain ⟨j, hj, rfl⟩ := List.getElem_of_mem hv
          exact hall j hj hj
        obtain ⟨q1, q2, q3, q4⟩ := hb_bd hkk b0
        have elb : lbV b kn = Ex.lbI b kn := if_pos ⟨b0, b1, hkn⟩
        have ehb : hbV b kn = Ex.hbI b kn := if_pos ⟨b0, b1, hkn⟩
        have clb := fun w => lb_c b kn w
        have chb := fun w => hb_c b kn w
        rw [elb] at clb
        rw [ehb] at chb
        clear elb ehb
        generalize Ex.lbI b kn = LB at *
        generalize Ex.hbI b kn = HB at *
        have g1 := few_iff.2 f1
        have g2 := few_iff.2 f2
        have lb0 : 0 ≤ LB := by omega
        have lb1 : LB ≤ 4611686018427387904 := by omega
        have hb0 : 0 ≤ HB := by omega
        have hb1 : HB ≤ 4611686018427387904 := by omega
        clear f1 f2 hall q1 q2 q3 q4
        have lx := hH
        have B := Below.refl w.heap.size w
        go_wp2_with fail
        refine (cf _ lx).mono ?_
        rintro e w1 ⟨s1, m1, s2, m2, rfl, l1, l2, hb, _, _⟩
        replace lx := lx.call hb
        replace B := below_call B hb
        clear hb
        go_wp2_with fail
        refine (clb _).mono ?_
        rintro e w2 ⟨rfl, hb⟩
        replace lx := lx.call hb
        replace l1 := l1.call hb
        replace l2 := l2.call hb
        replace B := below_call B hb
        clear hb
        go_wp2_with fail
        refine (few_r E LB _ _ _ lb0 lb1 (by omega) l1).mono ?_
        rintro e wn ⟨rfl, rfl⟩
        go_wp2_with fail
        refine (chb _).mono ?_
        rintro e w3 ⟨rfl, hb⟩
        replace lx := lx.call hb
        replace l1 := l1.call hb
        replace l2 := l2.call hb
        replace B := below_call B hb
        clear hb
        go_wp2_with fail
        refine (few_r O HB _ _ _ hb0 hb1 (by omega) l2).mono ?_
        rintro e wn ⟨rfl, rfl⟩
        go_wp2_with fail
        refine (example04_c _).mono ?_
        rintro e w4 ⟨rfl, hb⟩
        replace lx := lx.call hb
        replace l1 := l1.call hb
        replace l2 := l2.call hb
        replace B := below_call B hb
        clear hb
        go_wp2
        go_ret
        exact ⟨rfl, B⟩

set_option maxRecDepth 100000 in
theorem lifted (os : Os) (started : os.Started) (H : Type) (enc : TypeId × Value → H) :
    ReturnsInHanded {} Try.checked os 15 .any (Rows.liftStaysSpec.pre6 enc Try.prog Try.f15 Rows.liftStaysRow.domain false) (Rows.liftStaysSpec.post enc Try.prog Try.f15 false true false false) := by
  refine returnsInHanded_of_change (C := Try.checked) own started (by kernel_rfl) Try.func15
    (ChangeSpec.witness6 (enc := enc) (C := Try.checked) false ⟨#[], #[.slice none 0 0, .int .i64 0, .int .i64 0], []⟩ 8 (by kernel_rfl) (by kernel_rfl) (by kernel_rfl) (by kernel_rfl)) ?_
  intro W base args ds gs before hval0 hW _ _
  have hval : ∀ (j : Nat) t v, Try.f15.params[j]? = some t → args[j]? = some v → Value.okWide Try.prog W .any base t v := hval0
  have hW' := hW
  obtain ⟨p, q, hA0, hV, rfl, _, _⟩ := hW
  have hA : DataW.TrodAll enc Try.prog W 0 (fun _ => true) true Try.f15.params.toList args.toList ds p := hA0
  rw [Try.params15] at hA hval
  obtain ⟨v0, vs0, d0, ds0, p0, q0, hargs, rfl, rfl, h0, r0⟩ := trodAll_cons hA
  obtain ⟨v1, vs1, d1, ds1, p1, q1, rfl, rfl, rfl, h1, r1⟩ := trodAll_cons r0
  obtain ⟨v2, vs2, d2, ds2, p2, q2, rfl, rfl, rfl, h2, r2⟩ := trodAll_cons r1
  obtain ⟨rfl, rfl, rfl⟩ := trodAll_nil r2
  obtain rfl : args = #[v0, v1, v2] := by cases args; simp_all
  obtain ⟨rfl, rfl⟩ := trodVars_none hV
  clear hA0 hval0
  simp only [List.append_nil] at hW'
  have l0 : ∀ x ∈ p0, x.block < W.heap.size := fun x hx => hW'.lt x (by simp [hx])
  have l1 : ∀ x ∈ p1, x.block < W.heap.size := fun x hx => hW'.lt x (by simp [hx])
  have l2 : ∀ x ∈ p2, x.block < W.heap.size := fun x hx => hW'.lt x (by simp [hx])
  obtain ⟨s, l, m, rfl, hH0, hm0, hx0, hn0⟩ := open_intsT (hval 0 28 v0 rfl rfl) h0
  obtain ⟨st, rfl, _, _, wst⟩ := open_int Try.underlying3 (hval 1 3 v1 rfl rfl) h1
  obtain ⟨kn, rfl, _, _, wkn⟩ := open_int Try.underlying40 (hval 2 40 v2 rfl rfl) h2
  refine (walk l st kn s m hn0 W hH0).mono fun e W' ⟨he, hb⟩ => ?_
  subst he
  exact ⟨_, rfl, post_low (pa := p0 ++ (p1 ++ (p2 ++ ([])))) (pv := []) hW' (fun _ _ _ => (trodAll_cons_mk (shut_bool Try.underlying4 _) trodAll_mk0)) (fun sp hsp => (trodAll_cons_mk (trod_low laidOut (by kernel_rfl) (of_decide_eq_true (by kernel_rfl)) h0 hb l0 (fun x hx => hsp x (by simp [hx]))) (trodAll_cons_mk (trod_low laidOut (by kernel_rfl) (of_decide_eq_true (by kernel_rfl)) h1 hb l1 (fun x hx => hsp x (by simp [hx]))) (trodAll_cons_mk (trod_low laidOut (by kernel_rfl) (of_decide_eq_true (by kernel_rfl)) h2 hb l2 (fun x hx => hsp x (by simp [hx]))) trodAll_mk0)))) (fun _ _ => rfl) (by simp) hb (ok_one (by kernel_rfl) rfl (okWide_bool_mk Try.underlying4 _))⟩

theorem over : Rows.liftStaysRow.holds Try.pinned (OpenSpec.ofChange Rows.liftStaysSpec) :=
  OpenClaim.holds_of_wide 15 Try.f15 rfl rfl rfl rfl rfl rfl rfl ⟨rfl, rfl, rfl, rfl, rfl⟩ rfl rfl rfl rfl rfl (by kernel_rfl) Try.func15 (by kernel_rfl)
    (of_decide_eq_true (by kernel_rfl)) (by unfold Func.isWrapper; first | (rw [if_pos (by decide +kernel)]; kernel_rfl) | (rw [if_neg (by decide +kernel)]; exact ⟨rfl, rfl⟩))
    (fun os started H enc _ => lifted os started H enc)

theorem proved : Rows.LiftStaysSaid :=
  over
#print axioms proved
end Go.Proofs.Ytpobmmdjcfdfoaa.liftStays
