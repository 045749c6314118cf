/-
  For every slice of bytes and every offset the statement MarkerCanonical returns true; the slice reads afterwards as before.
  Conditions: none beyond those of the given statement.
-/
import Derived.Test.YtagfmmkhgggfmaaMy
import Derived.Test.YtagfmmkhgggfmaaMz
set_option maxRecDepth 100000
namespace Go.Proofs.Ytagfmmkhgggfmaa.markerCanonical
open Go.ChangeShapes Go.WideShapes Go.ChangeAt Go.RowKit Go.Joins Go.Deep

set_option maxRecDepth 100000 in
set_option maxHeartbeats 2000000 in
theorem walk (bs : List Int) (s : Option Addr) (m : Nat) (a : Int) (w : World) (hH : HoldsB w s bs) (hs : s = none → bs = [] ∧ m = 0) (hB : Mk.bytes bs) (hm : bs.length ≤ m) (hM : m ≤ maxLen) :
    Calls Try.prog 8 #[.slice s bs.length m, .int .i64 a] w fun e w' => e = .returned (.bool true) ∧ Below w.heap.size w w' := by
  by_cases h1 : 3000 < bs.length
  · have d1 : decide ((3000 : Int) < bs.length) = true := decide_eq_true (by omega)
    have d1' : decide (3000 < bs.length) = true := decide_eq_true (by omega)
    clear hH hB hs
    go_enter Try.func8, Try.ntmps8
    go_wp2_with (first | (go_at_call 14; (with_reducible refine (ex28_c _).mono ?_); rintro e wx ⟨rfl, hbx⟩) | fail)
    go_ret
    exact ⟨rfl, hbx⟩
  have d1 : decide ((3000 : Int) < bs.length) = false := decide_eq_false (by omega)
  have d1' : decide (3000 < bs.length) = false := decide_eq_false (by omega)
  have k1 := read_c bs s m a w hH hB hm (by omega) hM
  have HH := Lib.hid hH
  have HS := Lib.hid hs
  by_cases he : (Mk.rs bs a).e = 0
  · obtain ⟨n1, n2, n3⟩ := Mk.rs_next he
    obtain ⟨q1, q2⟩ := Mk.canon hB he
    generalize Mk.rs bs a = r at *
    obtain ⟨c, p, n, e⟩ := r
    simp only at he n1 n2 n3 q1 q2
    subst he
    obtain ⟨A, rfl⟩ : ∃ A : Nat, a = A := ⟨a.toNat, by omega⟩
    obtain ⟨N, rfl⟩ : ∃ N : Nat, n = N := ⟨n.toNat, by omega⟩
    rw [Int.toNat_natCast, Int.toNat_natCast] at q2
    have hal : (bs.take A).length = A := by simp; omega
    have hnl : (bs.take N).length = N := by simp; omega
    have KA := Lib.hid (fun (W : World) (s2 : Option Addr) (m2 : Nat) (h : HoldsB W s bs) (h2 : HoldsB W s2 p) (hs2 : s2 = none → p = [] ∧ m2 = 0) (hp : p.length ≤ 1000000) => (show Calls Try.prog 15 #[.slice s A m, .agg #[.int .i64 c, .slice s2 p.length m2]] W (GivesBE (bs.take N) 0 W) by
      have := append_c (bs.take A) s m c p s2 m2 W (h.take A) (fun h0 => ⟨by rw [(HS.out h0).1]; simp, (HS.out h0).2⟩) (by rw [hal]; omega) h2 hs2 hp
      rw [Mk.ap, if_pos q1, q2, q1, hal] at this
      exact this))
    have hpl : p.length ≤ 1000000 := by
      have := congrArg List.length q2
      rw [List.length_append, hal, hnl] at this
      have hq : p.length ≤ (Mk.seg c p).length := by
        obtain ⟨_, hb1, _⟩ := Mk.apE_zero q1
        unfold Mk.seg
        cases hb : Mk.bare c
        · rw [if_neg (by simp), List.length_append, List.length_append]; omega
        · rw [hb1 hb]; simp
      omega
    have CV := Lib.hid (fun (W : World) (h : HoldsB W s bs) => (show (convert 24 9 (.slice s N m)).run Try.prog W = .ok (.string (strOfNums (bs.take N))) W by
      have := conv_b W (bs.take N) s m (h.take N)
      rwa [hnl] at this))
    have HNL := Lib.hid hnl
    have HPL := Lib.hid hpl
    obtain ⟨X, hX⟩ : ∃ X, X = bs.take N := ⟨_, rfl⟩
    rw [← hX] at KA CV HNL
    clear q1 q2 hal hnl hpl hX hH hs
    have d2 : decide ((A : Int) < 0) = false := decide_eq_false (by omega)
    have d3 : decide ((N : Int) < (A : Int)) = false := decide_eq_false (by omega)
    have d3' : decide (N < A) = false := decide_eq_false (by omega)
    have d4 : decide ((bs.length : Int) < (N : Int)) = false := decide_eq_false (by omega)
    have d4' : decide (bs.length < N) = false := decide_eq_false (by omega)
    have a1 : A ≤ m := by omega
    have a2 : N ≤ m := by omega
    have a3 : (A : Int) ≤ (m : Int) := by omega
    have a4 : (N : Int) ≤ (m : Int) := by omega
    go_enter Try.func8, Try.ntmps8
    go_upto_region 4 with (first | (go_at_call 17; (with_reducible refine k1.mono ?_); rintro e w1 ⟨v1, rfl, ho, hb⟩; obtain ⟨_, s1, m1, rfl, hh, _, hn1⟩ := HoldsB.of_own ho; have HB1 := Lib.hid hb; have H1 := Lib.hid hh; have HN1 := Lib.hid (show s1 = none → p = [] ∧ m1 = 0 by assumption); clear ho hb hh k1 hn1) | fail)
    obtain ⟨W1, hW1⟩ : ∃ W, W = w1.alloc (.cells #[.int .i64 c, .slice s1 p.length m1] 26) := ⟨_, rfl⟩
    obtain ⟨g1, hg1⟩ : ∃ g, g = w1.heap.size := ⟨_, rfl⟩
    have A1 := Lib.hid (show Below w1.heap.size w1 W1 by rw [hW1]; exact (Below.refl _ _).alloc (Nat.le_refl _) _)
    have KK1 := Lib.hid (show Blk W1 g1 26 #[.int .i64 c, .slice s1 p.length m1] by rw [hW1, hg1]; exact Blk.new _ _ _)
    have B1 := Lib.hid (HB1.out.trans (A1.out.mono HB1.out.size))
    have P1 := Lib.hid (H1.out.call A1.out)
    have HH1 := Lib.hid (HH.out.call B1.out)
    rw [← hW1, ← hg1]
    clear hW1 hg1 A1 HB1 H1
    obtain ⟨c0, c1⟩ := KK1.out.two
    go_upto_region 8 with fail
    have ka := KA.out W1.drew s1 m1 HH1.out P1.out HN1.out HPL.out
    have z0 : W1.drew.cell? ⟨g1, 0, none⟩ = some (.int .i64 c) := c0
    have z1 : W1.drew.cell? ⟨g1, 1, none⟩ = some (.slice s1 p.length m1) := c1
    go_region_held3 (fun w' => w'.cell? ⟨g1, 0, none⟩ = some (.int .i64 c) ∧ w'.cell? ⟨g1, 1, none⟩ = some (.slice s1 p.length m1)) (first | (with_reducible exact ⟨z0, z1⟩) | (with_reducible exact ⟨e0, e1⟩) | fail) (first | (go_at_call 15; (with_reducible refine ka.mono ?_); rintro e w2 ⟨v2, rfl, ho, hb⟩; obtain ⟨_, s2, m2, rfl, hh, _, _⟩ := HoldsB.of_own ho; have B2 := Lib.hid hb; have P2 := Lib.hid hh; have e0 := (hb.cell (p := ⟨g1, 0, none⟩) (cell_lt z0)).trans z0; have e1 := (hb.cell (p := ⟨g1, 1, none⟩) (cell_lt z1)).trans z1; clear ho hb hh) | fail)
    have BW := Lib.hid (below_call B1.out (show Below W1.heap.size W1 w2 from (Below.refl _ W1).drew.trans B2.out))
    have cv1 := conv_b w2.drew X s2 m2 P2.out
    have cv2 := CV.out w2.drew (HH1.out.call (show Below W1.heap.size W1 w2.drew from (Below.refl _ W1).drew.trans B2.out.drew))
    go_upto_region 9 with fail
    go_still_tail 12, rfl
    go_wp2_with (first | (go_at_call 14; (with_reducible refine (ex28_c _).mono ?_); rintro e wx ⟨rfl, hbx⟩; have HBX := Lib.hid (below_call BW.out (show Below w2.heap.size w2 wx from (Below.refl _ w2).drew.trans hbx)); clear hbx) | fail)
    go_ret
    exact ⟨rfl, HBX.out⟩
  · have hr := Mk.rs_err he
    generalize (Mk.rs bs a).e = E at *
    rw [hr] at k1
    have b1 : (E == 0) = false := by simpa using he
    have b2 : (E != 0) = true := by simpa using he
    obtain ⟨p, hp⟩ : ∃ p : List Int, p = [] := ⟨_, rfl⟩
    obtain ⟨c, hc⟩ : ∃ c : Int, c = 0 := ⟨_, rfl⟩
    clear he hr hs hH hB HS
    go_enter Try.func8, Try.ntmps8
    go_wp2_with (first | (go_at_call 17; (with_reducible refine k1.mono ?_); rintro e w1 ⟨v1, rfl, ho, hb⟩; obtain ⟨_, s1, m1, rfl, hh, _, _⟩ := HoldsB.of_own ho; have HB1 := Lib.hid hb; have HB2 := Lib.hid ((HB1.out).alloc HB1.out.size (.cells #[.int .i64 0, .slice s1 0 m1] 26)); clear ho hb hh k1) | (go_at_call 14; (with_reducible refine (ex28_c _).mono ?_); rintro e wx ⟨rfl, hbx⟩; have HBX := Lib.hid (HB2.out.trans (hbx.mono HB2.out.size)); clear hbx) | fail)
    go_ret
    exact ⟨rfl, HBX.out⟩

set_option maxRecDepth 100000 in
theorem lifted (os : Os) (started : os.Started) (H : Type) (enc : TypeId × Value → H) :
    ReturnsInHanded {} Try.checked os 8 .any (Rows.markerCanonicalSpec.pre6 enc Try.prog Try.f8 Rows.markerCanonicalRow.domain false) (Rows.markerCanonicalSpec.post enc Try.prog Try.f8 false true false false) := by
  refine returnsInHanded_of_change (C := Try.checked) own started (by kernel_rfl) Try.func8
    (ChangeSpec.witness6 (enc := enc) (C := Try.checked) false ⟨#[], #[.slice none 0 0, .int .i64 0], []⟩ 8 (by kernel_rfl) (by kernel_rfl) (by kernel_rfl) (by kernel_rfl)) ?_
  intro W base args ds gs before hval0 hW _ _
  have hval : ∀ (j : Nat) t v, Try.f8.params[j]? = some t → args[j]? = some v → Value.okWide Try.prog W .any base t v := hval0
  have hW' := hW
  obtain ⟨p, q, hA0, hV, rfl, _, _⟩ := hW
  have hA : DataW.TrodAll enc Try.prog W 0 (fun _ => true) true Try.f8.params.toList args.toList ds p := hA0
  rw [Try.params8] at hA hval
  obtain ⟨v0, vs0, d0, ds0, p0, q0, hargs, rfl, rfl, h0, r0⟩ := trodAll_cons hA
  obtain ⟨v1, vs1, d1, ds1, p1, q1, rfl, rfl, rfl, h1, r1⟩ := trodAll_cons r0
  obtain ⟨rfl, rfl, rfl⟩ := trodAll_nil r1
  obtain rfl : args = #[v0, v1] := by cases args; simp_all
  obtain ⟨rfl, rfl⟩ := trodVars_none hV
  clear hA0 hval0
  simp only [List.append_nil] at hW'
  have l0 : ∀ x ∈ p0, x.block < W.heap.size := fun x hx => hW'.lt x (by simp [hx])
  have l1 : ∀ x ∈ p1, x.block < W.heap.size := fun x hx => hW'.lt x (by simp [hx])
  obtain ⟨s0, b0, m0, rfl, hB0, hY0, hm0, hM0, hn0⟩ := open_bytes (hval 0 24 v0 rfl rfl) h0
  obtain ⟨i1, rfl, _, _, wi1⟩ := open_int Try.underlying3 (hval 1 3 v1 rfl rfl) h1
  refine (walk b0 s0 m0 i1 W hB0 hn0 hY0 hm0 hM0).mono fun e W' ⟨he, hb⟩ => ?_
  subst he
  exact ⟨_, rfl, post_low (pa := p0 ++ (p1 ++ ([]))) (pv := []) hW' (fun _ _ _ => (trodAll_cons_mk (shut_bool Try.underlying4 _) trodAll_mk0)) (fun sp hsp => (trodAll_cons_mk (trod_low laidOut (by kernel_rfl) (of_decide_eq_true (by kernel_rfl)) h0 hb l0 (fun x hx => hsp x (by simp [hx]))) (trodAll_cons_mk (trod_low laidOut (by kernel_rfl) (of_decide_eq_true (by kernel_rfl)) h1 hb l1 (fun x hx => hsp x (by simp [hx]))) trodAll_mk0))) (fun _ _ => rfl) (by simp) hb (ok_one (by kernel_rfl) rfl (okWide_bool_mk Try.underlying4 _))⟩

theorem over : Rows.markerCanonicalRow.holds Try.pinned (OpenSpec.ofChange Rows.markerCanonicalSpec) :=
  OpenClaim.holds_of_wide 8 Try.f8 rfl rfl rfl rfl rfl rfl rfl ⟨rfl, rfl, rfl, rfl, rfl⟩ rfl rfl rfl rfl rfl (by kernel_rfl) Try.func8 (by kernel_rfl)
    (of_decide_eq_true (by kernel_rfl)) (by unfold Func.isWrapper; first | (rw [if_pos (by decide +kernel)]; kernel_rfl) | (rw [if_neg (by decide +kernel)]; exact ⟨rfl, rfl⟩))
    (fun os started H enc _ => lifted os started H enc)

theorem proved : Rows.MarkerCanonicalSaid :=
  over
#print axioms proved
end Go.Proofs.Ytagfmmkhgggfmaa.markerCanonical
