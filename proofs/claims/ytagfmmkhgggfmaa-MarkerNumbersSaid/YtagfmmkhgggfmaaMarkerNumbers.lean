/-
  For every slice of bytes and all numbers the statement MarkerNumbers returns true; the slice reads afterwards as before.
  Conditions: none beyond those of the given statement.
-/
import Derived.Test.YtagfmmkhgggfmaaMy
set_option maxRecDepth 100000
namespace Go.Proofs.Ytagfmmkhgggfmaa.markerNumbers
open Go.ChangeShapes Go.WideShapes Go.ChangeAt Go.RowKit Go.Joins Go.Deep

set_option maxRecDepth 100000 in
set_option maxHeartbeats 2000000 in
theorem walk (bs : List Int) (s : Option Addr) (m : Nat) (v n a : Int) (w : World) (hH : HoldsB w s bs) (hs : s = none → bs = [] ∧ m = 0) (hB : Mk.bytes bs) (hm : bs.length ≤ m) (hM : m ≤ maxLen) :
    Calls Try.prog 6 #[.slice s bs.length m, .int .i64 v, .int .i64 n, .int .i64 a] w fun e w' => e = .returned (.bool true) ∧ Below w.heap.size w w' := by
  by_cases h1 : 1000 < bs.length
  · have d1 : decide ((1000 : Int) < bs.length) = true := decide_eq_true (by omega)
    have d1' : decide (1000 < bs.length) = true := decide_eq_true (by omega)
    clear hH hs hB
    go_enter Try.func6, Try.ntmps6
    go_wp2_with (first | (go_at_call 14; (with_reducible refine (ex28_c _).mono ?_); rintro e wx ⟨rfl, hbx⟩) | fail)
    go_ret
    exact ⟨rfl, hbx⟩
  · have d1 : decide ((1000 : Int) < bs.length) = false := decide_eq_false (by omega)
    have d1' : decide (1000 < bs.length) = false := decide_eq_false (by omega)
    have k1 := uint_c bs s m v n w hH hs (by omega)
    have KU := Lib.hid (fun (W : World) (h : HoldsB W s bs) => runt_c bs s m v n W h hs (by omega))
    have KR := Lib.hid (fun (W : World) (h : HoldsB W s bs) => readUint_c bs s m a n W h hB hm hM)
    have KS := Lib.hid (fun (W : World) (h : HoldsB W s bs) => rreadUint_c bs s m a n W h hB hm hM)
    have HH := Lib.hid hH
    generalize Mk.un bs v n = X at *
    generalize Mk.unE v n = E at *
    generalize Mk.rdV bs a n = V at *
    generalize Mk.rdE bs a n = F at *
    have eE : (E == E) = true := by simp
    have eF : (F == F) = true := by simp
    have eV : (V == V) = true := by simp
    clear hs hH hB
    go_enter Try.func6, Try.ntmps6
    go_wp2_with (first | (go_at_call 23; (with_reducible refine k1.mono ?_); rintro e w1 ⟨v1, rfl, ho, hb⟩; obtain ⟨_, s1, m1, rfl, hh, _, _⟩ := HoldsB.of_own ho; have HB1 := Lib.hid hb; have H1 := Lib.hid hh; have HH1 := Lib.hid (HH.out.call hb); clear ho hb hh) | (go_at_call 24; (with_reducible refine (KU.out _ HH1.out).mono ?_); rintro e w2 ⟨v2, rfl, ho, hb⟩; obtain ⟨_, s2, m2, rfl, hh, _, _⟩ := HoldsB.of_own ho; have HB2 := Lib.hid (HB1.out.trans (hb.mono HB1.out.size)); have HH2 := Lib.hid (HH1.out.call hb); have cv1 := conv_b _ _ s1 m1 (H1.out.call hb); have cv2 := conv_b _ _ s2 m2 hh; clear ho hb hh) | (go_at_call 25; (with_reducible refine (KR.out _ HH2.out).mono ?_); rintro e wn ⟨rfl, rfl⟩) | (go_at_call 26; (with_reducible refine (KS.out _ HH2.out).mono ?_); rintro e wn ⟨rfl, rfl⟩) | (go_at_call 14; (with_reducible refine (ex28_c _).mono ?_); rintro e wx ⟨rfl, hbx⟩; have HBX := Lib.hid (HB2.out.trans (hbx.mono HB2.out.size)); clear hbx) | fail)
    go_ret
    exact ⟨rfl, HBX.out⟩

set_option maxRecDepth 100000 in
theorem lifted (os : Os) (started : os.Started) (H : Type) (enc : TypeId × Value → H) :
    ReturnsInHanded {} Try.checked os 6 .any (Rows.markerNumbersSpec.pre6 enc Try.prog Try.f6 Rows.markerNumbersRow.domain false) (Rows.markerNumbersSpec.post enc Try.prog Try.f6 false true false false) := by
  refine returnsInHanded_of_change (C := Try.checked) own started (by kernel_rfl) Try.func6
    (ChangeSpec.witness6 (enc := enc) (C := Try.checked) false ⟨#[], #[.slice none 0 0, .int .i64 0, .int .i64 0, .int .i64 0], []⟩ 8 (by kernel_rfl) (by kernel_rfl) (by kernel_rfl) (by kernel_rfl)) ?_
  intro W base args ds gs before hval0 hW _ _
  have hval : ∀ (j : Nat) t v, Try.f6.params[j]? = some t → args[j]? = some v → Value.okWide Try.prog W .any base t v := hval0
  have hW' := hW
  obtain ⟨p, q, hA0, hV, rfl, _, _⟩ := hW
  have hA : DataW.TrodAll enc Try.prog W 0 (fun _ => true) true Try.f6.params.toList args.toList ds p := hA0
  rw [Try.params6] at hA hval
  obtain ⟨v0, vs0, d0, ds0, p0, q0, hargs, rfl, rfl, h0, r0⟩ := trodAll_cons hA
  obtain ⟨v1, vs1, d1, ds1, p1, q1, rfl, rfl, rfl, h1, r1⟩ := trodAll_cons r0
  obtain ⟨v2, vs2, d2, ds2, p2, q2, rfl, rfl, rfl, h2, r2⟩ := trodAll_cons r1
  obtain ⟨v3, vs3, d3, ds3, p3, q3, rfl, rfl, rfl, h3, r3⟩ := trodAll_cons r2
  obtain ⟨rfl, rfl, rfl⟩ := trodAll_nil r3
  obtain rfl : args = #[v0, v1, v2, v3] := by cases args; simp_all
  obtain ⟨rfl, rfl⟩ := trodVars_none hV
  clear hA0 hval0
  simp only [List.append_nil] at hW'
  have l0 : ∀ x ∈ p0, x.block < W.heap.size := fun x hx => hW'.lt x (by simp [hx])
  have l1 : ∀ x ∈ p1, x.block < W.heap.size := fun x hx => hW'.lt x (by simp [hx])
  have l2 : ∀ x ∈ p2, x.block < W.heap.size := fun x hx => hW'.lt x (by simp [hx])
  have l3 : ∀ x ∈ p3, x.block < W.heap.size := fun x hx => hW'.lt x (by simp [hx])
  obtain ⟨s0, b0, m0, rfl, hB0, hY0, hm0, hM0, hn0⟩ := open_bytes (hval 0 24 v0 rfl rfl) h0
  obtain ⟨i1, rfl, _, _, wi1⟩ := open_int Try.underlying3 (hval 1 3 v1 rfl rfl) h1
  obtain ⟨i2, rfl, _, _, wi2⟩ := open_int Try.underlying3 (hval 2 3 v2 rfl rfl) h2
  obtain ⟨i3, rfl, _, _, wi3⟩ := open_int Try.underlying3 (hval 3 3 v3 rfl rfl) h3
  refine (walk b0 s0 m0 i1 i2 i3 W hB0 hn0 hY0 hm0 hM0).mono fun e W' ⟨he, hb⟩ => ?_
  subst he
  exact ⟨_, rfl, post_low (pa := p0 ++ (p1 ++ (p2 ++ (p3 ++ ([]))))) (pv := []) hW' (fun _ _ _ => (trodAll_cons_mk (shut_bool Try.underlying4 _) trodAll_mk0)) (fun sp hsp => (trodAll_cons_mk (trod_low laidOut (by kernel_rfl) (of_decide_eq_true (by kernel_rfl)) h0 hb l0 (fun x hx => hsp x (by simp [hx]))) (trodAll_cons_mk (trod_low laidOut (by kernel_rfl) (of_decide_eq_true (by kernel_rfl)) h1 hb l1 (fun x hx => hsp x (by simp [hx]))) (trodAll_cons_mk (trod_low laidOut (by kernel_rfl) (of_decide_eq_true (by kernel_rfl)) h2 hb l2 (fun x hx => hsp x (by simp [hx]))) (trodAll_cons_mk (trod_low laidOut (by kernel_rfl) (of_decide_eq_true (by kernel_rfl)) h3 hb l3 (fun x hx => hsp x (by simp [hx]))) trodAll_mk0))))) (fun _ _ => rfl) (by simp) hb (ok_one (by kernel_rfl) rfl (okWide_bool_mk Try.underlying4 _))⟩

theorem over : Rows.markerNumbersRow.holds Try.pinned (OpenSpec.ofChange Rows.markerNumbersSpec) :=
  OpenClaim.holds_of_wide 6 Try.f6 rfl rfl rfl rfl rfl rfl rfl ⟨rfl, rfl, rfl, rfl, rfl⟩ rfl rfl rfl rfl rfl (by kernel_rfl) Try.func6 (by kernel_rfl)
    (of_decide_eq_true (by kernel_rfl)) (by unfold Func.isWrapper; first | (rw [if_pos (by decide +kernel)]; kernel_rfl) | (rw [if_neg (by decide +kernel)]; exact ⟨rfl, rfl⟩))
    (fun os started H enc _ => lifted os started H enc)

theorem proved : Rows.MarkerNumbersSaid :=
  over
#print axioms proved
end Go.Proofs.Ytagfmmkhgggfmaa.markerNumbers
