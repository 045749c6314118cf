/-
  Layer 19: contracts of both Totals.
-/
import Derived.Test.YtnmmgjbjnhiaoaaDoorDd19
set_option maxRecDepth 100000
namespace Go.Proofs.YtnmmgjbjnhiaoaaDoor
open Go.RowKit

theorem muls_w {x : Int} {k : Nat} (w : Int) (hx : 0 ≤ x ∧ x ≤ 1073676289 * (k : Int)) (hk : k ≤ 4096) (hw : 0 ≤ w ∧ w ≤ 16) : 0 ≤ w * x ∧ w * x ≤ 70364449275904 := by
  have a := Int.mul_nonneg hw.1 hx.1
  have b : w * x ≤ 16 * (1073676289 * 4096) := Int.mul_le_mul hw.2 (by omega) hx.1 (by decide)
  omega
theorem mem_getD (l : List Int) (k : Nat) (hk : k < l.length) : l.getD k 0 ∈ l := by simp [List.getD, hk]
set_option maxHeartbeats 8000000 in
theorem dtotal_c (l1 l2 l3 : List Int) (s1 s2 s3 : Option Addr) (n1 n2 n3 m1 m2 m3 : Nat) (s d w : Int) (W : World) (H1 : HoldsI W s1 l1) (H2 : HoldsI W s2 l2) (H3 : HoldsI W s3 l3) (h1 : n1 = l1.length) (h2 : n2 = l2.length) (h3 : n3 = l3.length) (hr : ∀ v ∈ l2, i64R v) :
    Calls Tryd.prog 14 #[.slice s1 n1 m1, .slice s2 n2 m2, .slice s3 n3 m3, .int .i64 s, .int .i64 d, .int .i64 w] W fun e w' => e = .returned (.tuple #[.int .i64 (toV l1 l2 l3 s d w), .int .i64 (toE l1 l2 l3 s d w)]) ∧ Below W.heap.size W w' := by
  obtain ⟨E, hE⟩ : ∃ E, E = toE l1 l2 l3 s d w := ⟨_, rfl⟩
  obtain ⟨V, hV⟩ : ∃ V, V = toV l1 l2 l3 s d w := ⟨_, rfl⟩
  rw [← hE, ← hV]
  have kv := fun W => vd_q s d W
  have HE := Lib.hid hE
  have HV := Lib.hid hV
  have G1 := Lib.hid H1
  have G2 := Lib.hid H2
  have G3 := Lib.hid H3
  have N1 := Lib.hid h1
  have N2 := Lib.hid h2
  have N3 := Lib.hid h3
  have ker := fun (k : Nat) (hk : k < l2.length) (W1 : World) => derror_c (l1.getD k 0) (l2.getD k 0) (l3.getD k 0) s d W1 (hr _ (mem_getD l2 k (by omega)))
  have KER := Lib.hid ker
  clear hE hV H1 H2 H3 h1 h2 h3 ker
  by_cases g1 : n2 = n1
  · by_cases g2 : n3 = n1
    · have hlen : ¬ (l2.length ≠ l1.length ∨ l3.length ≠ l1.length) := by rw [← N1.out, ← N2.out, ← N3.out]; omega
      subst g1
      subst g2
      have t0 : ((n3 : Int) != (n3 : Int)) = false := by simp
      by_cases g3 : 4096 < n3
      · have t3 : (4096 : Int) < (n3 : Int) := by omega
        have hE : E = 5 := by rw [HE.out]; unfold toE; rw [if_neg hlen, if_pos (by rw [← N1.out]; exact g3)]
        have hV : V = 0 := by rw [HV.out]; unfold toV; rw [if_neg (by rw [← HE.out, hE]; decide)]
        subst hE hV
        go_enter Tryd.func14, Tryd.ntmps14
        go_wp2_with (first | (go_at_call 31; (with_reducible refine (kv _).mono ?_); rintro e wn ⟨rfl, hw⟩; replace hw := hw.symm; subst hw) | fail)
        go_ret2
        exact ⟨rfl, Below.refl _ _⟩
      · have t3 : ¬ (4096 : Int) < (n3 : Int) := by omega
        have hn : ¬ 4096 < l1.length := by rw [← N1.out]; exact g3
        cases hv : Qu.vB s d with
        | false =>
          rw [hv] at kv
          have hE : E = 2 := by rw [HE.out]; unfold toE; rw [if_neg hlen, if_neg hn, if_pos (.inl hv)]
          have hV : V = 0 := by rw [HV.out]; unfold toV; rw [if_neg (by rw [← HE.out, hE]; decide)]
          subst hE hV
          go_enter Tryd.func14, Tryd.ntmps14
          go_wp2_with (first | (go_at_call 31; (with_reducible refine (kv _).mono ?_); rintro e wn ⟨rfl, hw⟩; replace hw := hw.symm; subst hw) | fail)
          go_ret2
          exact ⟨rfl, Below.refl _ _⟩
        | true =>
          rw [hv] at kv
          by_cases g4 : w < 0
          · have hx := hv
            clear hv
            have hE : E = 2 := by rw [HE.out]; unfold toE; rw [if_neg hlen, if_neg hn, if_pos (.inr (.inl g4))]
            have hV : V = 0 := by rw [HV.out]; unfold toV; rw [if_neg (by rw [← HE.out, hE]; decide)]
            subst hE hV
            clear hx
            go_enter Tryd.func14, Tryd.ntmps14
            go_wp2_with (first | (go_at_call 31; (with_reducible refine (kv _).mono ?_); rintro e wn ⟨rfl, hw⟩; replace hw := hw.symm; subst hw) | fail)
            go_ret2
            exact ⟨rfl, Below.refl _ _⟩
          · by_cases g5 : 16 < w
            · have hx := hv
              clear hv
              have hE : E = 2 := by rw [HE.out]; unfold toE; rw [if_neg hlen, if_neg hn, if_pos (.inr (.inr g5))]
              have hV : V = 0 := by rw [HV.out]; unfold toV; rw [if_neg (by rw [← HE.out, hE]; decide)]
              subst hE hV
              clear hx
              go_enter Tryd.func14, Tryd.ntmps14
              go_wp2_with (first | (go_at_call 31; (with_reducible refine (kv _).mono ?_); rintro e wn ⟨rfl, hw⟩; replace hw := hw.symm; subst hw) | fail)
              go_ret2
              exact ⟨rfl, Below.refl _ _⟩
            · have HOK : Hid (toE l1 l2 l3 s d w = if AllM l3 then 0 else 2) := by
                show toE l1 l2 l3 s d w = if AllM l3 then 0 else 2
                unfold toE
                rw [if_neg hlen, if_neg hn, if_neg (by rw [hv]; simp; omega)]
              have H4 := Lib.hid (show n3 ≤ 4096 by omega)
              have H5 := Lib.hid (show 0 ≤ w ∧ w ≤ 16 by omega)
              clear hlen hn hv
              go_enter Tryd.func14, Tryd.ntmps14
              go_wp2_with (first | (go_at_call 31; (with_reducible refine (kv _).mono ?_); rintro e wn ⟨rfl, hw⟩; replace hw := hw.symm; subst hw) | fail)
              clear kv t0 t3 g3
              go_loopw [14, 50] (fun u i wr => ∃ k : Nat, k ≤ n3 ∧ i = .int .i64 (k : Int) ∧ u = .int .i64 (suE l1 l2 l3 s d k) ∧ Hid (Below W.heap.size W wr) ∧ Hid (∀ j, j < k → msB (l3.getD j 0))) (fun _ i _ => n3 - (intOf i).toNat)
              case atStart => exact ⟨0, Nat.zero_le _, rfl, rfl, Below.refl _ _, fun j hj => by omega⟩
              case round =>
                obtain ⟨k, hk, rfl, rfl, hW, hA⟩ := hrel
                by_cases hlt : k < n3
                · have HLT := Lib.hid hlt
                  have wk : IntKind.i64.wrap ((k : Int) + 1) = ((k + 1 : Nat) : Int) := by have := H4.out; rw [IntWalk.i64_left]; unfold wrap64; omega
                  obtain ⟨b1, o1, rfl, c1⟩ := (G1.out.call hW.out).at (show k < l1.length by have := N1.out; omega)
                  obtain ⟨b2, o2, rfl, c2⟩ := (G2.out.call hW.out).at (show k < l2.length by have := N2.out; omega)
                  obtain ⟨b3, o3, rfl, c3⟩ := (G3.out.call hW.out).at (show k < l3.length by have := N3.out; omega)
                  have p1 : (0 : Int) ≤ (k : Int) := by omega
                  have p2 : (k : Int) < (n3 : Int) := by omega
                  by_cases q1 : l3.getD k 0 < 0
                  · have hE : E = 2 := by rw [HE.out, HOK.out, if_neg (fun h => by have := (h k (by have := N3.out; omega)).1; omega)]
                    have hV : V = 0 := by rw [HV.out]; unfold toV; rw [if_neg (by rw [← HE.out, hE]; decide)]
                    clear HOK HE HV
                    subst hE hV
                    generalize l3.getD k 0 = y3 at *
                    go_wp2_with fail
                    go_ret2
                    exact ⟨rfl, hW.out⟩
                  · by_cases q2 : 60 < l3.getD k 0
                    · have hE : E = 2 := by rw [HE.out, HOK.out, if_neg (fun h => by have := (h k (by have := N3.out; omega)).2; omega)]
                      have hV : V = 0 := by rw [HV.out]; unfold toV; rw [if_neg (by rw [← HE.out, hE]; decide)]
                      clear HOK HE HV
                      subst hE hV
                      generalize l3.getD k 0 = y3 at *
                      go_wp2_with fail
                      go_ret2
                      exact ⟨rfl, hW.out⟩
                    · have HM := Lib.hid (show msB (l3.getD k 0) from ⟨by omega, by omega⟩)
                      have ke := KER.out k (by have := N2.out; omega)
                      have hin := er_in (l1.getD k 0) (l2.getD k 0) (l3.getD k 0) s d
                      have hsu := suE_in l1 l2 l3 s d k
                      have hnx : suE l1 l2 l3 s d (k + 1) = suE l1 l2 l3 s d k + erI (l1.getD k 0) (l2.getD k 0) (l3.getD k 0) s d * erI (l1.getD k 0) (l2.getD k 0) (l3.getD k 0) s d := rfl
                      have hsq := sq_in _ hin.1 hin.2
                      have hsn := suE_in l1 l2 l3 s d (k + 1)
                      rw [hnx] at hsn
                      have e1 : IntKind.i64.wrap (erI (l1.getD k 0) (l2.getD k 0) (l3.getD k 0) s d * erI (l1.getD k 0) (l2.getD k 0) (l3.getD k 0) s d) = erI (l1.getD k 0) (l2.getD k 0) (l3.getD k 0) s d * erI (l1.getD k 0) (l2.getD k 0) (l3.getD k 0) s d := by rw [IntWalk.i64_left]; unfold wrap64; omega
                      have e2 : IntKind.i64.wrap (suE l1 l2 l3 s d k + erI (l1.getD k 0) (l2.getD k 0) (l3.getD k 0) s d * erI (l1.getD k 0) (l2.getD k 0) (l3.getD k 0) s d) = suE l1 l2 l3 s d k + erI (l1.getD k 0) (l2.getD k 0) (l3.getD k 0) s d * erI (l1.getD k 0) (l2.getD k 0) (l3.getD k 0) s d := by have := H4.out; rw [IntWalk.i64_left]; unfold wrap64; omega
                      generalize erI (l1.getD k 0) (l2.getD k 0) (l3.getD k 0) s d = er at *
                      have HNX := Lib.hid hnx
                      generalize suE l1 l2 l3 s d k = su at *
                      clear hnx hin hsu hsq hsn
                      generalize hy : l3.getD k 0 = y3 at *
                      have HYY := Lib.hid hy
                      generalize l1.getD k 0 = y1 at *
                      generalize l2.getD k 0 = y2 at *
                      clear hy
                      go_wp2_with fail
                      go_quiet ((go_at_call 12; exact Calls.quiet_of_same (ke _)))
                      go_wp2_with fail
                      go_roundw
                      case rel => exact ⟨k + 1, HLT.out, by go_num, by rw [HNX.out], below_call hW.out (drewN_below _ _), fun j hj => by
                        rcases Nat.lt_or_ge j k with h | h
                        · exact hA.out j h
                        · obtain rfl : j = k := by omega
                          rw [HYY.out]; exact HM.out⟩
                      case measure => have := HLT.out; simp [intOf]; omega
                · obtain rfl : n3 = k := by omega
                  have hall : AllM l3 := fun i hi => hA.out i (by rw [N3.out]; exact hi)
                  have hE : E = 0 := by rw [HE.out, HOK.out, if_pos hall]
                  have hV : V = w * suE l1 l2 l3 s d n3 := by rw [HV.out]; unfold toV; rw [if_pos (by rw [← HE.out, hE]), ← N1.out]
                  have hsu := suE_in l1 l2 l3 s d n3
                  have hmw := muls_w w hsu H4.out H5.out
                  have wv : IntKind.i64.wrap (w * suE l1 l2 l3 s d n3) = w * suE l1 l2 l3 s d n3 := by rw [IntWalk.i64_left]; unfold wrap64; omega
                  replace wv := wv.trans hV.symm
                  clear HOK HE HV hsu hmw hA hall hV
                  subst hE
                  generalize suE l1 l2 l3 s d n3 = su at *
                  go_wp2_with fail
                  go_ret2
                  exact ⟨rfl, hW.out⟩
    · have t0 : ((n3 : Int) != (n1 : Int)) = true := by simp; omega
      have t1 : ((n1 : Int) != (n3 : Int)) = true := by simp; omega
      have t2 : ((n1 : Int) != (n1 : Int)) = false := by simp
      have hlen : l2.length ≠ l1.length ∨ l3.length ≠ l1.length := by rw [← N1.out, ← N2.out, ← N3.out]; omega
      subst g1
      clear g2
      have hE : E = 4 := by rw [HE.out]; unfold toE; rw [if_pos hlen]
      have hV : V = 0 := by rw [HV.out]; unfold toV; rw [if_neg (by rw [← HE.out, hE]; decide)]
      subst hE hV
      go_enter Tryd.func14, Tryd.ntmps14
      go_wp2_with (first | (go_at_call 31; (with_reducible refine (kv _).mono ?_); rintro e wn ⟨rfl, hw⟩; replace hw := hw.symm; subst hw) | fail)
      go_ret2
      exact ⟨rfl, Below.refl _ _⟩
  · have t0 : ((n2 : Int) != (n1 : Int)) = true := by simp; omega
    have t1 : ((n1 : Int) != (n2 : Int)) = true := by simp; omega
    have hlen : l2.length ≠ l1.length ∨ l3.length ≠ l1.length := by rw [← N1.out, ← N2.out, ← N3.out]; omega
    clear g1
    have hE : E = 4 := by rw [HE.out]; unfold toE; rw [if_pos hlen]
    have hV : V = 0 := by rw [HV.out]; unfold toV; rw [if_neg (by rw [← HE.out, hE]; decide)]
    subst hE hV
    go_enter Tryd.func14, Tryd.ntmps14
    go_wp2_with (first | (go_at_call 31; (with_reducible refine (kv _).mono ?_); rintro e wn ⟨rfl, hw⟩; replace hw := hw.symm; subst hw) | fail)
    go_ret2
    exact ⟨rfl, Below.refl _ _⟩
set_option maxHeartbeats 8000000 in
theorem rtotal_c (l1 l2 l3 : List Int) (s1 s2 s3 : Option Addr) (n1 n2 n3 m1 m2 m3 : Nat) (s d w : Int) (W : World) (H1 : HoldsI W s1 l1) (H2 : HoldsI W s2 l2) (H3 : HoldsI W s3 l3) (h1 : n1 = l1.length) (h2 : n2 = l2.length) (h3 : n3 = l3.length) :
    Calls Tryd.prog 15 #[.slice s1 n1 m1, .slice s2 n2 m2, .slice s3 n3 m3, .int .i64 s, .int .i64 d, .int .i64 w] W fun e w' => e = .returned (.tuple #[.int .i64 (toV l1 l2 l3 s d w), .int .i64 (toE l1 l2 l3 s d w)]) ∧ Below W.heap.size W w' := by
  obtain ⟨E, hE⟩ : ∃ E, E = toE l1 l2 l3 s d w := ⟨_, rfl⟩
  obtain ⟨V, hV⟩ : ∃ V, V = toV l1 l2 l3 s d w := ⟨_, rfl⟩
  rw [← hE, ← hV]
  have kv := fun W => vd_r s d W
  have HE := Lib.hid hE
  have HV := Lib.hid hV
  have G1 := Lib.hid H1
  have G2 := Lib.hid H2
  have G3 := Lib.hid H3
  have N1 := Lib.hid h1
  have N2 := Lib.hid h2
  have N3 := Lib.hid h3
  have ker := fun (k : Nat) (hk : k < l2.length) (W1 : World) => rerror_c (l1.getD k 0) (l2.getD k 0) (l3.getD k 0) s d W1
  have KER := Lib.hid ker
  clear hE hV H1 H2 H3 h1 h2 h3 ker
  by_cases g1 : n2 = n1
  · by_cases g2 : n3 = n1
    · have hlen : ¬ (l2.length ≠ l1.length ∨ l3.length ≠ l1.length) := by rw [← N1.out, ← N2.out, ← N3.out]; omega
      subst g1
      subst g2
      have t0 : ((n3 : Int) != (n3 : Int)) = false := by simp
      by_cases g3 : 4096 < n3
      · have t3 : (4096 : Int) < (n3 : Int) := by omega
        have hE : E = 5 := by rw [HE.out]; unfold toE; rw [if_neg hlen, if_pos (by rw [← N1.out]; exact g3)]
        have hV : V = 0 := by rw [HV.out]; unfold toV; rw [if_neg (by rw [← HE.out, hE]; decide)]
        subst hE hV
        go_enter Tryd.func15, Tryd.ntmps15
        go_wp2_with (first | (go_at_call 16; (with_reducible refine (kv _).mono ?_); rintro e wn ⟨rfl, hw⟩; replace hw := hw.symm; subst hw) | fail)
        go_ret2
        exact ⟨rfl, Below.refl _ _⟩
      · have t3 : ¬ (4096 : Int) < (n3 : Int) := by omega
        have hn : ¬ 4096 < l1.length := by rw [← N1.out]; exact g3
        cases hv : Qu.vB s d with
        | false =>
          rw [hv] at kv
          have hE : E = 2 := by rw [HE.out]; unfold toE; rw [if_neg hlen, if_neg hn, if_pos (.inl hv)]
          have hV : V = 0 := by rw [HV.out]; unfold toV; rw [if_neg (by rw [← HE.out, hE]; decide)]
          subst hE hV
          go_enter Tryd.func15, Tryd.ntmps15
          go_wp2_with (first | (go_at_call 16; (with_reducible refine (kv _).mono ?_); rintro e wn ⟨rfl, hw⟩; replace hw := hw.symm; subst hw) | fail)
          go_ret2
          exact ⟨rfl, Below.refl _ _⟩
        | true =>
          rw [hv] at kv
          by_cases g4 : w < 0
          · have hx := hv
            clear hv
            have hE : E = 2 := by rw [HE.out]; unfold toE; rw [if_neg hlen, if_neg hn, if_pos (.inr (.inl g4))]
            have hV : V = 0 := by rw [HV.out]; unfold toV; rw [if_neg (by rw [← HE.out, hE]; decide)]
            subst hE hV
            clear hx
            go_enter Tryd.func15, Tryd.ntmps15
            go_wp2_with (first | (go_at_call 16; (with_reducible refine (kv _).mono ?_); rintro e wn ⟨rfl, hw⟩; replace hw := hw.symm; subst hw) | fail)
            go_ret2
            exact ⟨rfl, Below.refl _ _⟩
          · by_cases g5 : 16 < w
            · have hx := hv
              clear hv
              have hE : E = 2 := by rw [HE.out]; unfold toE; rw [if_neg hlen, if_neg hn, if_pos (.inr (.inr g5))]
              have hV : V = 0 := by rw [HV.out]; unfold toV; rw [if_neg (by rw [← HE.out, hE]; decide)]
              subst hE hV
              clear hx
              go_enter Tryd.func15, Tryd.ntmps15
              go_wp2_with (first | (go_at_call 16; (with_reducible refine (kv _).mono ?_); rintro e wn ⟨rfl, hw⟩; replace hw := hw.symm; subst hw) | fail)
              go_ret2
              exact ⟨rfl, Below.refl _ _⟩
            · have HOK : Hid (toE l1 l2 l3 s d w = if AllM l3 then 0 else 2) := by
                show toE l1 l2 l3 s d w = if AllM l3 then 0 else 2
                unfold toE
                rw [if_neg hlen, if_neg hn, if_neg (by rw [hv]; simp; omega)]
              have H4 := Lib.hid (show n3 ≤ 4096 by omega)
              have H5 := Lib.hid (show 0 ≤ w ∧ w ≤ 16 by omega)
              clear hlen hn hv
              go_enter Tryd.func15, Tryd.ntmps15
              go_wp2_with (first | (go_at_call 16; (with_reducible refine (kv _).mono ?_); rintro e wn ⟨rfl, hw⟩; replace hw := hw.symm; subst hw) | fail)
              clear kv t0 t3 g3
              go_loopw [14, 15] (fun u i wr => ∃ k : Nat, k ≤ n3 ∧ i = .int .i64 (k : Int) ∧ u = .int .i64 (w * suE l1 l2 l3 s d k) ∧ Hid (Below W.heap.size W wr) ∧ Hid (∀ j, j < k → msB (l3.getD j 0))) (fun _ i _ => n3 - (intOf i).toNat)
              case atStart => exact ⟨0, Nat.zero_le _, rfl, by show Value.int .i64 0 = _; rw [show suE l1 l2 l3 s d 0 = 0 from rfl, Int.mul_zero], Below.refl _ _, fun j hj => by omega⟩
              case round =>
                obtain ⟨k, hk, rfl, rfl, hW, hA⟩ := hrel
                by_cases hlt : k < n3
                · have HLT := Lib.hid hlt
                  have wk : IntKind.i64.wrap ((k : Int) + 1) = ((k + 1 : Nat) : Int) := by have := H4.out; rw [IntWalk.i64_left]; unfold wrap64; omega
                  obtain ⟨b1, o1, rfl, c1⟩ := (G1.out.call hW.out).at (show k < l1.length by have := N1.out; omega)
                  obtain ⟨b2, o2, rfl, c2⟩ := (G2.out.call hW.out).at (show k < l2.length by have := N2.out; omega)
                  obtain ⟨b3, o3, rfl, c3⟩ := (G3.out.call hW.out).at (show k < l3.length by have := N3.out; omega)
                  have p1 : (0 : Int) ≤ (k : Int) := by omega
                  have p2 : (k : Int) < (n3 : Int) := by omega
                  by_cases q1 : l3.getD k 0 < 0
                  · have hE : E = 2 := by rw [HE.out, HOK.out, if_neg (fun h => by have := (h k (by have := N3.out; omega)).1; omega)]
                    have hV : V = 0 := by rw [HV.out]; unfold toV; rw [if_neg (by rw [← HE.out, hE]; decide)]
                    clear HOK HE HV
                    subst hE hV
                    generalize l3.getD k 0 = y3 at *
                    go_wp2_with fail
                    go_ret2
                    exact ⟨rfl, hW.out⟩
                  · by_cases q2 : 60 < l3.getD k 0
                    · have hE : E = 2 := by rw [HE.out, HOK.out, if_neg (fun h => by have := (h k (by have := N3.out; omega)).2; omega)]
                      have hV : V = 0 := by rw [HV.out]; unfold toV; rw [if_neg (by rw [← HE.out, hE]; decide)]
                      clear HOK HE HV
                      subst hE hV
                      generalize l3.getD k 0 = y3 at *
                      go_wp2_with fail
                      go_ret2
                      exact ⟨rfl, hW.out⟩
                    · have HM := Lib.hid (show msB (l3.getD k 0) from ⟨by omega, by omega⟩)
                      have ke := KER.out k (by have := N2.out; omega)
                      have hin := er_in (l1.getD k 0) (l2.getD k 0) (l3.getD k 0) s d
                      have hsu := suE_in l1 l2 l3 s d k
                      have hnx : suE l1 l2 l3 s d (k + 1) = suE l1 l2 l3 s d k + erI (l1.getD k 0) (l2.getD k 0) (l3.getD k 0) s d * erI (l1.getD k 0) (l2.getD k 0) (l3.getD k 0) s d := rfl
                      have hsn := suE_in l1 l2 l3 s d (k + 1)
                      have hm1 := muls_w w hsu (show k ≤ 4096 by have := H4.out; omega) H5.out
                      have hm2 := muls_w w hsn (show k + 1 ≤ 4096 by have := H4.out; omega) H5.out
                      rw [hnx, Int.mul_add, ← Int.mul_assoc] at hm2
                      have hwe : 0 ≤ w * erI (l1.getD k 0) (l2.getD k 0) (l3.getD k 0) s d ∧ w * erI (l1.getD k 0) (l2.getD k 0) (l3.getD k 0) s d ≤ 16 * 32767 := ⟨Int.mul_nonneg H5.out.1 hin.1, Int.mul_le_mul H5.out.2 hin.2 hin.1 (by decide)⟩
                      have hwee : 0 ≤ w * erI (l1.getD k 0) (l2.getD k 0) (l3.getD k 0) s d * erI (l1.getD k 0) (l2.getD k 0) (l3.getD k 0) s d := Int.mul_nonneg hwe.1 hin.1
                      have e0 : IntKind.i64.wrap (w * erI (l1.getD k 0) (l2.getD k 0) (l3.getD k 0) s d) = w * erI (l1.getD k 0) (l2.getD k 0) (l3.getD k 0) s d := by rw [IntWalk.i64_left]; unfold wrap64; omega
                      have e1 : IntKind.i64.wrap (w * erI (l1.getD k 0) (l2.getD k 0) (l3.getD k 0) s d * erI (l1.getD k 0) (l2.getD k 0) (l3.getD k 0) s d) = w * erI (l1.getD k 0) (l2.getD k 0) (l3.getD k 0) s d * erI (l1.getD k 0) (l2.getD k 0) (l3.getD k 0) s d := by rw [IntWalk.i64_left]; unfold wrap64; omega
                      have e2 : IntKind.i64.wrap (w * suE l1 l2 l3 s d k + w * erI (l1.getD k 0) (l2.getD k 0) (l3.getD k 0) s d * erI (l1.getD k 0) (l2.getD k 0) (l3.getD k 0) s d) = w * suE l1 l2 l3 s d k + w * erI (l1.getD k 0) (l2.getD k 0) (l3.getD k 0) s d * erI (l1.getD k 0) (l2.getD k 0) (l3.getD k 0) s d := by rw [IntWalk.i64_left]; unfold wrap64; omega
                      clear hm1 hm2 hwe hwee
                      generalize erI (l1.getD k 0) (l2.getD k 0) (l3.getD k 0) s d = er at *
                      have HNX := Lib.hid hnx
                      generalize suE l1 l2 l3 s d k = su at *
                      clear hnx hin hsu hsn
                      generalize hy : l3.getD k 0 = y3 at *
                      have HYY := Lib.hid hy
                      generalize l1.getD k 0 = y1 at *
                      generalize l2.getD k 0 = y2 at *
                      clear hy
                      go_wp2_with fail
                      go_quiet ((go_at_call 13; exact Calls.quiet_of_same (ke _)))
                      go_wp2_with fail
                      go_roundw
                      case rel => exact ⟨k + 1, HLT.out, by go_num, by rw [HNX.out, Int.mul_add, ← Int.mul_assoc], below_call hW.out (drewN_below _ _), fun j hj => by
                        rcases Nat.lt_or_ge j k with h | h
                        · exact hA.out j h
                        · obtain rfl : j = k := by omega
                          rw [HYY.out]; exact HM.out⟩
                      case measure => have := HLT.out; simp [intOf]; omega
                · obtain rfl : n3 = k := by omega
                  have hall : AllM l3 := fun i hi => hA.out i (by rw [N3.out]; exact hi)
                  have hE : E = 0 := by rw [HE.out, HOK.out, if_pos hall]
                  have hV : V = w * suE l1 l2 l3 s d n3 := by rw [HV.out]; unfold toV; rw [if_pos (by rw [← HE.out, hE]), ← N1.out]
                  clear HOK HE HV hA hall
                  subst hE hV
                  go_wp2_with fail
                  go_ret2
                  exact ⟨rfl, hW.out⟩
    · have t0 : ((n3 : Int) != (n1 : Int)) = true := by simp; omega
      have t1 : ((n1 : Int) != (n3 : Int)) = true := by simp; omega
      have t2 : ((n1 : Int) != (n1 : Int)) = false := by simp
      have hlen : l2.length ≠ l1.length ∨ l3.length ≠ l1.length := by rw [← N1.out, ← N2.out, ← N3.out]; omega
      subst g1
      clear g2
      have hE : E = 4 := by rw [HE.out]; unfold toE; rw [if_pos hlen]
      have hV : V = 0 := by rw [HV.out]; unfold toV; rw [if_neg (by rw [← HE.out, hE]; decide)]
      subst hE hV
      go_enter Tryd.func15, Tryd.ntmps15
      go_wp2_with (first | (go_at_call 16; (with_reducible refine (kv _).mono ?_); rintro e wn ⟨rfl, hw⟩; replace hw := hw.symm; subst hw) | fail)
      go_ret2
      exact ⟨rfl, Below.refl _ _⟩
  · have t0 : ((n2 : Int) != (n1 : Int)) = true := by simp; omega
    have t1 : ((n1 : Int) != (n2 : Int)) = true := by simp; omega
    have hlen : l2.length ≠ l1.length ∨ l3.length ≠ l1.length := by rw [← N1.out, ← N2.out, ← N3.out]; omega
    clear g1
    have hE : E = 4 := by rw [HE.out]; unfold toE; rw [if_pos hlen]
    have hV : V = 0 := by rw [HV.out]; unfold toV; rw [if_neg (by rw [← HE.out, hE]; decide)]
    subst hE hV
    go_enter Tryd.func15, Tryd.ntmps15
    go_wp2_with (first | (go_at_call 16; (with_reducible refine (kv _).mono ?_); rintro e wn ⟨rfl, hw⟩; replace hw := hw.symm; subst hw) | fail)
    go_ret2
    exact ⟨rfl, Below.refl _ _⟩
end Go.Proofs.YtnmmgjbjnhiaoaaDoor
