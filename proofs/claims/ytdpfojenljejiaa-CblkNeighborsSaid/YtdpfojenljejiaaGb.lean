/-
  Layer 14: all coefficients of two blocks compared; their neighbors.
-/
import Derived.Test.YtdpfojenljejiaaGa
set_option maxRecDepth 100000
namespace Go.Proofs.Ytdpfojenljejiaa
open Go.RowKit

theorem bne1 (s : Bool) : (s != s) = false := by cases s <;> rfl
theorem bne2 (s : Bool) : (!s == s) = false := by cases s <;> rfl
theorem ine1 (x : Int) : (x != x) = false := by simp
section
variable {W W' : World} {B A V S T R A2 C w h : Nat} {q q' : St}
set_option maxHeartbeats 8000000 in
theorem alike_c (H : Cb W B A V S T R w h q) (G : Rb W B A2 C w h q) : Calls Try.prog 17 #[.pointer (some ⟨A, 0, none⟩), .pointer (some ⟨A2, 0, none⟩), .int .i64 (w : Int), .int .i64 (h : Int)] W fun e w' => e = .returned (.bool true) ∧ Below W.heap.size W w' := by
  have hf := H.fit
  have hw : (w : Int) ≤ 64 ∧ (h : Int) ≤ 64 := by unfold fits at hf; omega
  obtain ⟨hw1, hw2⟩ := hw
  have HH := Lib.hid H
  have GG := Lib.hid G
  clear H G hf
  go_enter Try.func17, Try.ntmps17
  go_wp2_with fail
  go_loopw [9, 10] (fun i x wr => ∃ y : Int, -1 ≤ y ∧ y ≤ (h : Int) + 1 ∧ i = .int .i64 y ∧ Hid (Below W.heap.size W wr)) (fun i _ _ => ((h : Int) + 1 - intOf i).toNat)
  case atStart => exact ⟨-1, by omega, by omega, rfl, Below.refl _ _⟩
  case round =>
    obtain ⟨y, hy1, hy2, rfl, hW⟩ := hrel
    by_cases hly : y ≤ (h : Int)
    · go_wp2_with fail
      obtain ⟨W0, rfl⟩ : ∃ W0, W0 = wr := ⟨_, rfl⟩
      have hW0 := Lib.hid hW.out
      clear hW
      go_loopw [10] (fun i wr => ∃ x : Int, -1 ≤ x ∧ x ≤ (w : Int) + 1 ∧ i = .int .i64 x ∧ Hid (Below W.heap.size W wr)) (fun i _ => ((w : Int) + 1 - intOf i).toNat)
      case atStart => exact ⟨-1, by omega, by omega, rfl, hW0.out⟩
      case round =>
        obtain ⟨x, hx1, hx2, rfl, hW⟩ := hrel
        by_cases hlx : x ≤ (w : Int)
        · have H1 := Lib.hid (HH.out.below hW.out)
          have G1 := Lib.hid (GG.out.below hW.out)
          have B1 : Hid (Below W.heap.size W wr) := hW
          have cvalue := value_c H1.out x y
          have dvalue := rvalue_c G1.out x y
          generalize q.v x y = zvalue at *
          have evalue := ine1 zvalue
          go_wp2_with (first | (go_at_call 31; (with_reducible refine cvalue.mono ?_); rintro e wn ⟨rfl, rfl⟩))
          refine dvalue.mono ?_
          rintro e vvalue ⟨rfl, hb⟩
          have B2 := Lib.hid (below_call B1.out hb)
          have H2 := Lib.hid (H1.out.below hb)
          have G2 := Lib.hid (G1.out.below hb)
          clear hb cvalue dvalue H1 G1
          have csignificant := significant_c H2.out x y
          have dsignificant := rsignificant_c G2.out x y
          generalize q.s x y = zsignificant at *
          have esignificant := bne1 zsignificant
          have fsignificant := bne2 zsignificant
          go_wp2_with (first | (go_at_call 32; (with_reducible refine csignificant.mono ?_); rintro e wn ⟨rfl, rfl⟩))
          refine dsignificant.mono ?_
          rintro e vsignificant ⟨rfl, hb⟩
          have B3 := Lib.hid (below_call B2.out hb)
          have H3 := Lib.hid (H2.out.below hb)
          have G3 := Lib.hid (G2.out.below hb)
          clear hb csignificant dsignificant H2 G2
          have ctouched := touched_c H3.out x y
          have dtouched := rtouched_c G3.out x y
          generalize q.t x y = ztouched at *
          have etouched := bne1 ztouched
          have ftouched := bne2 ztouched
          go_wp2_with (first | (go_at_call 33; (with_reducible refine ctouched.mono ?_); rintro e wn ⟨rfl, rfl⟩))
          refine dtouched.mono ?_
          rintro e vtouched ⟨rfl, hb⟩
          have B4 := Lib.hid (below_call B3.out hb)
          have H4 := Lib.hid (H3.out.below hb)
          have G4 := Lib.hid (G3.out.below hb)
          clear hb ctouched dtouched H3 G3
          have crefined := refined_c H4.out x y
          have drefined := rrefined_c G4.out x y
          generalize q.r x y = zrefined at *
          have erefined := bne1 zrefined
          have frefined := bne2 zrefined
          go_wp2_with (first | (go_at_call 34; (with_reducible refine crefined.mono ?_); rintro e wn ⟨rfl, rfl⟩))
          refine drefined.mono ?_
          rintro e vrefined ⟨rfl, hb⟩
          have B5 := Lib.hid (below_call B4.out hb)
          have H5 := Lib.hid (H4.out.below hb)
          have G5 := Lib.hid (G4.out.below hb)
          clear hb crefined drefined H4 G4
          go_wp2_with fail
          go_roundw
          case rel => exact ⟨x + 1, by omega, by omega, by go_num, B5.out⟩
          case measure => simp [intOf]; omega
        · go_wp2_with fail
          go_roundw
          case rel => exact ⟨y + 1, by omega, by omega, by go_num, hW⟩
          case measure => simp [intOf]; omega
    · go_wp2_with fail
      go_ret
      exact ⟨rfl, hW.out⟩
set_option maxHeartbeats 8000000 in
theorem around_c (H : Cb W B A V S T R w h q) (G : Rb W B A2 C w h q) (c : Bool) : Calls Try.prog 20 #[.pointer (some ⟨A, 0, none⟩), .pointer (some ⟨A2, 0, none⟩), .int .i64 (w : Int), .int .i64 (h : Int), .bool c] W fun e w' => e = .returned (.bool true) ∧ Below W.heap.size W w' := by
  have hf := H.fit
  have hw : (w : Int) ≤ 64 ∧ (h : Int) ≤ 64 := by unfold fits at hf; omega
  obtain ⟨hw1, hw2⟩ := hw
  have HH := Lib.hid H
  have GG := Lib.hid G
  clear H G hf
  go_enter Try.func20, Try.ntmps20
  go_wp2_with fail
  go_loopw [11, 12] (fun i x wr => ∃ y : Int, -1 ≤ y ∧ y ≤ (h : Int) + 1 ∧ i = .int .i64 y ∧ Hid (Below W.heap.size W wr)) (fun i _ _ => ((h : Int) + 1 - intOf i).toNat)
  case atStart => exact ⟨-1, by omega, by omega, rfl, Below.refl _ _⟩
  case round =>
    obtain ⟨y, hy1, hy2, rfl, hW⟩ := hrel
    by_cases hly : y ≤ (h : Int)
    · go_wp2_with fail
      obtain ⟨W0, rfl⟩ : ∃ W0, W0 = wr := ⟨_, rfl⟩
      have hW0 := Lib.hid hW.out
      clear hW
      go_loopw [12] (fun i wr => ∃ x : Int, -1 ≤ x ∧ x ≤ (w : Int) + 1 ∧ i = .int .i64 x ∧ Hid (Below W.heap.size W wr)) (fun i _ => ((w : Int) + 1 - intOf i).toNat)
      case atStart => exact ⟨-1, by omega, by omega, rfl, hW0.out⟩
      case round =>
        obtain ⟨x, hx1, hx2, rfl, hW⟩ := hrel
        by_cases hlx : x ≤ (w : Int)
        · have H1 := Lib.hid (HH.out.below hW.out)
          have G1 := Lib.hid (GG.out.below hW.out)
          have B1 : Hid (Below W.heap.size W wr) := hW
          have n1 := nb_c H1.out x y c
          generalize hza : (if inB w h x y then nbH q x y else 0) = za at *
          generalize hzb : (if inB w h x y then nbV q x y c else 0) = zb at *
          generalize hzd : (if inB w h x y then nbD q x y c else 0) = zd at *
          have Q1 := Lib.hid hza
          have Q2 := Lib.hid hzb
          have Q3 := Lib.hid hzd
          clear hza hzb hzd
          go_wp2_with fail
          refine n1.mono ?_
          rintro e v1 ⟨rfl, hb⟩
          have B2 := Lib.hid (below_call B1.out hb)
          have H2 := Lib.hid (H1.out.below hb)
          have G2 := Lib.hid (G1.out.below hb)
          have n2 := rnb_c G2.out x y c
          rw [Q1.out, Q2.out, Q3.out] at n2
          clear hb n1 H1 G1
          go_wp2_with fail
          refine n2.mono ?_
          rintro e v2 ⟨rfl, hb⟩
          have B3 := Lib.hid (below_call B2.out hb)
          have H3 := Lib.hid (H2.out.below hb)
          have G3 := Lib.hid (G2.out.below hb)
          have s1 := sgs_c H3.out x y c
          have s2 := rsgs_c G3.out x y c
          unfold SGives at s1
          generalize (if inB w h x y then sgH q x y else 0) = ya at *
          generalize (if inB w h x y then sgV q x y c else 0) = yb at *
          clear hb n2 H2 G2
          go_wp2_with fail
          refine s1.mono ?_
          rintro e wn ⟨rfl, rfl⟩
          clear s1
          go_wp2_with fail
          refine s2.mono ?_
          rintro e v3 ⟨rfl, hb⟩
          have B4 := Lib.hid (below_call B3.out hb)
          have e1 := ine1 za
          have e2 := ine1 zb
          have e3 := ine1 zd
          have e4 := ine1 ya
          have e5 := ine1 yb
          clear hb s2 H3 G3
          go_wp2_with fail
          go_roundw
          case rel => exact ⟨x + 1, by omega, by omega, by go_num, B4.out⟩
          case measure => simp [intOf]; omega
        · go_wp2_with fail
          go_roundw
          case rel => exact ⟨y + 1, by omega, by omega, by go_num, hW⟩
          case measure => simp [intOf]; omega
    · go_wp2_with fail
      go_ret
      exact ⟨rfl, hW.out⟩
end
end Go.Proofs.Ytdpfojenljejiaa
