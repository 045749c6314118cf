/-
  For every slice of bytes and every offset the statement MarkerReads returns true; the slice reads afterwards as before.
  Conditions: none beyond those of the given statement.
-/
import Derived.Test.YtagfmmkhgggfmaaMy
import Derived.Test.YtagfmmkhgggfmaaMz
set_option maxRecDepth 100000
namespace Go.Proofs.Ytagfmmkhgggfmaa.markerReads
open Go.ChangeShapes Go.WideShapes Go.ChangeAt Go.RowKit Go.Joins Go.Deep

set_option maxRecDepth 100000 in
set_option maxHeartbeats 2000000 in
theorem walk (bs : List Int) (s : Option Addr) (m : Nat) (a : Int) (w : World) (hH : HoldsB w s bs) (hB : Mk.bytes bs) (hm : bs.length ≤ m) (hM : m ≤ maxLen) :
    Calls Try.prog 5 #[.slice s bs.length m, .int .i64 a] w fun e w' => e = .returned (.bool true) ∧ Below w.heap.size w w' := by
  by_cases h1 : 3000 < bs.length
  · have d1 : decide ((3000 : Int) < bs.length) = true := decide_eq_true (by omega)
    have d1' : decide (3000 < bs.length) = true := decide_eq_true (by omega)
    clear hH hB
    go_enter Try.func5, Try.ntmps5
    go_wp2_with (first | (go_at_call 14; (with_reducible refine (ex28_c _).mono ?_); rintro e wx ⟨rfl, hbx⟩) | fail)
    go_ret
    exact ⟨rfl, hbx⟩
  · have d1 : decide ((3000 : Int) < bs.length) = false := decide_eq_false (by omega)
    have d1' : decide (3000 < bs.length) = false := decide_eq_false (by omega)
    have k1 := read_c bs s m a w hH hB hm (by omega) hM
    have K2 := Lib.hid (fun (W : World) (h : HoldsB W s bs) => rread_c bs s m a W h hB hm (by omega) hM)
    have K3 := Lib.hid (fun (W : World) (h : HoldsB W s bs) => all_c bs s m a W h hB hm (by omega) hM)
    have K4 := Lib.hid (fun (W : World) (h : HoldsB W s bs) => rall_c bs s m a W h hB hm (by omega) hM)
    have HL := Lib.hid (Mk.al_len bs (bs.length + 1) a)
    have HH := Lib.hid hH
    generalize Mk.al bs (bs.length + 1) a = q at *
    generalize Mk.rs bs a = r at *
    obtain ⟨c, p, n, e⟩ := r
    obtain ⟨L, N, E⟩ := q
    have en : (n == n) = true := by simp
    have ee : (e == e) = true := by simp
    have eN : (N == N) = true := by simp
    have eE : (E == E) = true := by simp
    have HLL := Lib.hid (show L.length ≤ 3001 by have := HL.out; simp only at this; omega)
    clear hH hB HL
    go_enter Try.func5, Try.ntmps5
    go_upto_region 4 with (first | (go_at_call 17; (with_reducible refine k1.mono ?_); rintro e w1 ⟨v1, rfl, ho, hb⟩; obtain ⟨_, s1, m1, rfl, hh, _, _⟩ := HoldsB.of_own ho; have HB1 := Lib.hid hb; have H1 := Lib.hid hh; clear ho hb hh k1) | fail)
    obtain ⟨W1, hW1⟩ : ∃ W, W = w1.alloc (.cells #[.int .i64 c, .slice s1 p.length m1] 26) := ⟨_, rfl⟩
    obtain ⟨g1, hg1⟩ : ∃ g, g = w1.heap.size := ⟨_, rfl⟩
    have A1 := Lib.hid (show Below w1.heap.size w1 W1 by rw [hW1]; exact (Below.refl _ _).alloc (Nat.le_refl _) _)
    have KK1 := Lib.hid (show Blk W1 g1 26 #[.int .i64 c, .slice s1 p.length m1] by rw [hW1, hg1]; exact Blk.new _ _ _)
    have B1 := Lib.hid (HB1.out.trans (A1.out.mono HB1.out.size))
    have P1 := Lib.hid (H1.out.call A1.out)
    have HH1 := Lib.hid (HH.out.call B1.out)
    rw [← hW1, ← hg1]
    clear hW1 hg1 A1 HB1 H1
    go_upto_region 5 with (first | (go_at_call 18; (with_reducible refine (K2.out _ HH1.out).mono ?_); rintro e w2 ⟨v2, rfl, ho, hb⟩; obtain ⟨_, s2, m2, rfl, hh, _, _⟩ := HoldsB.of_own ho; have HB2 := Lib.hid hb; have H2 := Lib.hid hh; clear ho hb hh) | fail)
    obtain ⟨W2, hW2⟩ : ∃ W, W = w2.alloc (.cells #[.int .i64 c, .slice s2 p.length m2] 26) := ⟨_, rfl⟩
    obtain ⟨g2, hg2⟩ : ∃ g, g = w2.heap.size := ⟨_, rfl⟩
    have A2 := Lib.hid (show Below w2.heap.size w2 W2 by rw [hW2]; exact (Below.refl _ _).alloc (Nat.le_refl _) _)
    have KK2 := Lib.hid (show Blk W2 g2 26 #[.int .i64 c, .slice s2 p.length m2] by rw [hW2, hg2]; exact Blk.new _ _ _)
    have B2 := Lib.hid (HB2.out.trans (A2.out.mono HB2.out.size))
    have P2 := Lib.hid (H2.out.call A2.out)
    have HH2 := Lib.hid (HH1.out.call B2.out)
    rw [← hW2, ← hg2]
    clear hW2 hg2 A2 HB2 H2
    go_upto_region 6 with (first | (go_at_call 19; (with_reducible refine (K3.out _ HH2.out).mono ?_); rintro e w3 ⟨v3, Q3, rfl, ho, hs, hb⟩; obtain ⟨s3, m3, rfl, hh, _, _⟩ := own_holdsS ho hs; have B3 := Lib.hid hb; have H3 := Lib.hid hh; have HH3 := Lib.hid (HH2.out.call hb); clear ho hb hh hs) | fail)
    go_upto_region 7 with (first | (go_at_call 20; (with_reducible refine (K4.out _ HH3.out).mono ?_); rintro e w4 ⟨v4, Q4, rfl, ho, hs, hb⟩; obtain ⟨s4, m4, rfl, hh, _, _⟩ := own_holdsS ho hs; have B4 := Lib.hid hb; have H4 := Lib.hid hh; have HS3 := Lib.hid (H3.out.call hb); clear ho hb hh hs) | fail)
    have P1' := ((P1.out.call B2.out).call B3.out).call B4.out
    have P2' := (P2.out.call B3.out).call B4.out
    have Q1 := ((KK1.out.below B2.out).below B3.out).below B4.out
    have Q2 := (KK2.out.below B3.out).below B4.out
    obtain ⟨c0, c1⟩ := Q1.two
    obtain ⟨d0, d1⟩ := Q2.two
    have BB := Lib.hid (((B1.out.trans (B2.out.mono B1.out.size)).trans (B3.out.mono (Nat.le_trans B1.out.size B2.out.size))).trans (B4.out.mono (Nat.le_trans B1.out.size (Nat.le_trans B2.out.size B3.out.size))))
    have ks := same_seg w4 c p s1 s2 m1 m2 P1' P2'
    clear P1' P2' Q1 Q2
    go_wp2_with (first | (go_at_call 21; (with_reducible refine ks.mono ?_); rintro e w5 ⟨rfl, hb5⟩; have BB5 := Lib.hid (BB.out.trans (hb5.mono BB.out.size)); have kt := same_segs w5 L Q3 Q4 s3 s4 m3 m4 (HS3.out.call hb5) (H4.out.call hb5) (by have := HLL.out; omega); clear hb5) | (go_at_call 22; (with_reducible refine kt.mono ?_); rintro e w6 ⟨rfl, hb6⟩; have BB6 := Lib.hid (BB5.out.trans (hb6.mono BB5.out.size)); clear hb6) | (go_at_call 14; (with_reducible refine (ex28_c _).mono ?_); rintro e wx ⟨rfl, hbx⟩; have HBX := Lib.hid (BB6.out.trans (hbx.mono BB6.out.size)); clear hbx) | fail)
    go_ret
    exact ⟨rfl, HBX.out⟩

set_option maxRecDepth 100000 in
theorem lifted (os : Os) (started : os.Started) (H : Type) (enc : TypeId × Value → H) :
    ReturnsInHanded {} Try.checked os 5 .any (Rows.markerReadsSpec.pre6 enc Try.prog Try.f5 Rows.markerReadsRow.domain false) (Rows.markerReadsSpec.post enc Try.prog Try.f5 false true false false) := by
  refine returnsInHanded_of_change (C := Try.checked) own started (by kernel_rfl) Try.func5
    (ChangeSpec.witness6 (enc := enc) (C := Try.checked) false ⟨#[], #[.slice none 0 0, .int .i64 0], []⟩ 8 (by kernel_rfl) (by kernel_rfl) (by kernel_rfl) (by kernel_rfl)) ?_
  intro W base args ds gs before hval0 hW _ _
  have hval : ∀ (j : Nat) t v, Try.f5.params[j]? = some t → args[j]? = some v → Value.okWide Try.prog W .any base t v := hval0
  have hW' := hW
  obtain ⟨p, q, hA0, hV, rfl, _, _⟩ := hW
  have hA : DataW.TrodAll enc Try.prog W 0 (fun _ => true) true Try.f5.params.toList args.toList ds p := hA0
  rw [Try.params5] at hA hval
  obtain ⟨v0, vs0, d0, ds0, p0, q0, hargs, rfl, rfl, h0, r0⟩ := trodAll_cons hA
  obtain ⟨v1, vs1, d1, ds1, p1, q1, rfl, rfl, rfl, h1, r1⟩ := trodAll_cons r0
  obtain ⟨rfl, rfl, rfl⟩ := trodAll_nil r1
  obtain rfl : args = #[v0, v1] := by cases args; simp_all
  obtain ⟨rfl, rfl⟩ := trodVars_none hV
  clear hA0 hval0
  simp only [List.append_nil] at hW'
  have l0 : ∀ x ∈ p0, x.block < W.heap.size := fun x hx => hW'.lt x (by simp [hx])
  have l1 : ∀ x ∈ p1, x.block < W.heap.size := fun x hx => hW'.lt x (by simp [hx])
  obtain ⟨s0, b0, m0, rfl, hB0, hY0, hm0, hM0, hn0⟩ := open_bytes (hval 0 24 v0 rfl rfl) h0
  obtain ⟨i1, rfl, _, _, wi1⟩ := open_int Try.underlying3 (hval 1 3 v1 rfl rfl) h1
  refine (walk b0 s0 m0 i1 W hB0 hY0 hm0 hM0).mono fun e W' ⟨he, hb⟩ => ?_
  subst he
  exact ⟨_, rfl, post_low (pa := p0 ++ (p1 ++ ([]))) (pv := []) hW' (fun _ _ _ => (trodAll_cons_mk (shut_bool Try.underlying4 _) trodAll_mk0)) (fun sp hsp => (trodAll_cons_mk (trod_low laidOut (by kernel_rfl) (of_decide_eq_true (by kernel_rfl)) h0 hb l0 (fun x hx => hsp x (by simp [hx]))) (trodAll_cons_mk (trod_low laidOut (by kernel_rfl) (of_decide_eq_true (by kernel_rfl)) h1 hb l1 (fun x hx => hsp x (by simp [hx]))) trodAll_mk0))) (fun _ _ => rfl) (by simp) hb (ok_one (by kernel_rfl) rfl (okWide_bool_mk Try.underlying4 _))⟩

theorem over : Rows.markerReadsRow.holds Try.pinned (OpenSpec.ofChange Rows.markerReadsSpec) :=
  OpenClaim.holds_of_wide 5 Try.f5 rfl rfl rfl rfl rfl rfl rfl ⟨rfl, rfl, rfl, rfl, rfl⟩ rfl rfl rfl rfl rfl (by kernel_rfl) Try.func5 (by kernel_rfl)
    (of_decide_eq_true (by kernel_rfl)) (by unfold Func.isWrapper; first | (rw [if_pos (by decide +kernel)]; kernel_rfl) | (rw [if_neg (by decide +kernel)]; exact ⟨rfl, rfl⟩))
    (fun os started H enc _ => lifted os started H enc)

theorem proved : Rows.MarkerReadsSaid :=
  over
#print axioms proved
end Go.Proofs.Ytagfmmkhgggfmaa.markerReads
