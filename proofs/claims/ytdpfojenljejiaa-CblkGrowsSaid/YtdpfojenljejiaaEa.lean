/-
  Layer 14: the chapter's examples hold.
-/
import Derived.Test.YtdpfojenljejiaaPg
import Derived.Test.YtdpfojenljejiaaPn
set_option maxRecDepth 100000
namespace Go.Proofs.Ytdpfojenljejiaa
open Go.RowKit

theorem CGives.run {B A V S T R w h : Nat} {q : St} {c : Int} {W W' : World} {e : Ending} (hB : B ≤ W.heap.size) (H : CGives B A V S T R w h q c W e W') : e = .returned (.int .i64 c) ∧ Cb W' B A V S T R w h q ∧ Below B W W' := by
  obtain ⟨h1, h2, h3⟩ := H
  refine ⟨h1, h2, h3.below (fun k hk => ?_) hB⟩
  simp at hk
  rcases hk with rfl | rfl | rfl | rfl
  · exact h2.geV
  · exact h2.geS
  · exact h2.geT
  · exact h2.geR
def exQ1 : St := setQ 3 5 St.zero 1 3 (-2)
def exQ2 : St := setQ 3 5 exQ1 0 4 7
def exQ3 : St := setQ 3 5 exQ2 2 4 7
def exQ4 : St := markQ 3 5 exQ3 1 3
def exQ5 : St := markQ 3 5 exQ4 0 4
def exQ6 : St := markQ 3 5 exQ5 2 4
theorem ptrBn (w : World) (a : Addr) : (binOp .eql 23 (.pointer (some a)) (.pointer none)).run Try.prog w = .ok (.bool false) w := by
  have h : ∀ d : Nat, (Op.equalIn (d + 1) 23 (.pointer (some a)) (.pointer none)).run Try.prog w = .ok false w := fun d => by
    simp [Op.equalIn, run_underlying (P := Try.prog) (t := 23) Try.underlying23]
  simp only [binOp]
  simp [Op.equal, Op.maxDepth, h 9999]
theorem holds_four (w : World) (a b c d : Int) : HoldsI (w.alloc (.cells #[.int .i64 a, .int .i64 b, .int .i64 c, .int .i64 d] 3)) (some ⟨w.heap.size, 0, none⟩) [a, b, c, d] := holds_new w _ rfl [a, b, c, d] _ rfl
theorem holds_three (w : World) (a b c : Int) : HoldsI (w.alloc (.cells #[.int .i64 a, .int .i64 b, .int .i64 c] 3)) (some ⟨w.heap.size, 0, none⟩) [a, b, c] := holds_new w _ rfl [a, b, c] _ rfl
theorem exS14 : segC true false 14 = [10, 2, 1, 1] := by decide +kernel
theorem exS3 : segC false true 3 = [1, 1, 1] := by decide +kernel
theorem exScan : (scan 2 5).length = 10 := by decide +kernel
set_option maxHeartbeats 16000000 in
theorem ex14_c (W : World) : Calls Try.prog 14 #[] W fun e w' => e = .returned (.bool true) ∧ Below W.heap.size W w' := by
  have hn := new_yes 3 5 (by unfold fits; decide) W
  go_enter Try.func14, Try.ntmps14
  go_wp2_with fail
  refine hn.mono ?_
  rintro e w1 ⟨A, V, S, T, R, rfl, hC1, hB1⟩
  have C1 := Lib.hid hC1
  have B1 := Lib.hid hB1
  have hp := fun W => ptrBn W ⟨A, 0, none⟩
  clear hC1 hB1 hn
  go_wp2_with fail
  have s1 := set_c C1.out 1 3 (-2)
  rw [show setE 3 5 1 3 (-2) = 0 by decide] at s1
  refine s1.mono ?_
  rintro e w2 hg
  obtain ⟨rfl, hC, hB⟩ := CGives.run B1.out.size hg
  have C2 : Hid (Cb w2 W.heap.size A V S T R 3 5 exQ1) := hC
  have B2 := Lib.hid (B1.out.trans hB)
  clear hC hB hg s1
  go_wp2_with fail
  have s2 := set_c C2.out 0 4 7
  rw [show setE 3 5 0 4 7 = 0 by decide] at s2
  refine s2.mono ?_
  rintro e w3 hg
  obtain ⟨rfl, hC, hB⟩ := CGives.run B2.out.size hg
  have C3 : Hid (Cb w3 W.heap.size A V S T R 3 5 exQ2) := hC
  have B3 := Lib.hid (B2.out.trans hB)
  clear hC hB hg s2
  go_wp2_with fail
  have s3 := set_c C3.out 2 4 7
  rw [show setE 3 5 2 4 7 = 0 by decide] at s3
  refine s3.mono ?_
  rintro e w4 hg
  obtain ⟨rfl, hC, hB⟩ := CGives.run B3.out.size hg
  have C4 : Hid (Cb w4 W.heap.size A V S T R 3 5 exQ3) := hC
  have B4 := Lib.hid (B3.out.trans hB)
  clear hC hB hg s3
  go_wp2_with fail
  have m1 := mark_c C4.out 1 3
  rw [show atE 3 5 1 3 = 0 by decide] at m1
  refine m1.mono ?_
  rintro e w5 hg
  obtain ⟨rfl, hC, hB⟩ := CGives.run B4.out.size hg
  have C5 : Hid (Cb w5 W.heap.size A V S T R 3 5 exQ4) := hC
  have B5 := Lib.hid (B4.out.trans hB)
  clear hC hB hg m1
  go_wp2_with fail
  have m2 := mark_c C5.out 0 4
  rw [show atE 3 5 0 4 = 0 by decide] at m2
  refine m2.mono ?_
  rintro e w6 hg
  obtain ⟨rfl, hC, hB⟩ := CGives.run B5.out.size hg
  have C6 : Hid (Cb w6 W.heap.size A V S T R 3 5 exQ5) := hC
  have B6 := Lib.hid (B5.out.trans hB)
  clear hC hB hg m2
  go_wp2_with fail
  have m3 := mark_c C6.out 2 4
  rw [show atE 3 5 2 4 = 0 by decide] at m3
  refine m3.mono ?_
  rintro e w7 hg
  obtain ⟨rfl, hC, hB⟩ := CGives.run B6.out.size hg
  have C7 : Hid (Cb w7 W.heap.size A V S T R 3 5 exQ6) := hC
  have B7 := Lib.hid (B6.out.trans hB)
  clear hC hB hg m3
  clear C1 C2 C3 C4 C5 C6 B1 B2 B3 B4 B5 B6
  have n1 := nb_y C7.out 1 4 false (by decide)
  rw [show nbH exQ6 1 4 = 2 by decide +kernel, show nbV exQ6 1 4 false = 1 by decide +kernel, show nbD exQ6 1 4 false = 0 by decide +kernel] at n1
  go_wp2_with fail
  refine n1.mono ?_
  rintro e w8 ⟨rfl, hb⟩
  have C8 := Lib.hid (C7.out.below hb)
  have B8 := Lib.hid (below_call B7.out hb)
  clear hb n1 C7 B7
  have g1 := sgs_y C8.out 1 4 false (by decide)
  rw [show sgH exQ6 1 4 = 1 by decide +kernel, show sgV exQ6 1 4 false = -1 by decide +kernel] at g1
  go_wp2_with fail
  refine g1.mono ?_
  rintro e wn ⟨rfl, rfl⟩
  clear g1
  have n2 := nb_y C8.out 1 3 false (by decide)
  rw [show nbH exQ6 1 3 = 0 by decide +kernel, show nbV exQ6 1 3 false = 0 by decide +kernel, show nbD exQ6 1 3 false = 2 by decide +kernel] at n2
  go_wp2_with fail
  refine n2.mono ?_
  rintro e w9 ⟨rfl, hb⟩
  have C9 := Lib.hid (C8.out.below hb)
  have B9 := Lib.hid (below_call B8.out hb)
  clear hb n2 C8 B8
  have n3 := nb_y C9.out 1 3 true (by decide)
  rw [show nbH exQ6 1 3 = 0 by decide +kernel, show nbV exQ6 1 3 true = 0 by decide +kernel, show nbD exQ6 1 3 true = 0 by decide +kernel] at n3
  go_wp2_with fail
  refine n3.mono ?_
  rintro e w10 ⟨rfl, hb⟩
  have C10 := Lib.hid (C9.out.below hb)
  have B10 := Lib.hid (below_call B9.out hb)
  clear hb n3 C9 B9
  have p6 := fun W => pass_c 6 (by decide) W
  rw [show plnP 6 = 2 by decide, show kndP 6 = 2 by decide] at p6
  go_wp2_with (first | (go_at_call 24; (with_reducible refine (p6 _).mono ?_); rintro e wn ⟨rfl, rfl⟩))
  have hA1 := below_alloc (Below.refl _ w10) (.cells #[.bool true, .bool false, .bool false, .bool false, .bool false] 47)
  have C11 := Lib.hid (C10.out.below hA1)
  have B11 := Lib.hid (below_call B10.out hA1)
  have M11 := Lib.hid (Blk.new w10 47 #[.bool true, .bool false, .bool false, .bool false, .bool false])
  clear hA1 C10 B10
  generalize hG : w10.heap.size = G at *
  clear hG
  generalize w10.alloc (.cells #[.bool true, .bool false, .bool false, .bool false, .bool false] 47) = w11 at *
  have r1 := raw_c 11 ⟨true, false, false, false, false⟩ (by decide) w11
  unfold Mo.val at r1
  rw [show rawM 11 true = true by decide] at r1
  refine r1.mono ?_
  rintro e w12 ⟨rfl, hb⟩
  have C12 := Lib.hid (C11.out.below hb)
  have B12 := Lib.hid (below_call B11.out hb)
  have M12 := Lib.hid (M11.out.below hb)
  clear hb r1 C11 B11 M11
  have c0 := M12.out.cell 0
  have c1 := M12.out.cell 1
  have c2 := M12.out.cell 2
  have c3 := M12.out.cell 3
  have c4 := M12.out.cell 4
  simp at c0 c1 c2 c3 c4
  go_wp2_with fail
  have r2 := raw_c 12 ⟨true, false, false, false, false⟩ (by decide) w12
  unfold Mo.val at r2
  rw [show rawM 12 true = false by decide] at r2
  refine r2.mono ?_
  rintro e w13 ⟨rfl, hb⟩
  have C13 := Lib.hid (C12.out.below hb)
  have B13 := Lib.hid (below_call B12.out hb)
  have M13 := Lib.hid (M12.out.below hb)
  clear hb r2 C12 B12 M12 c0 c1 c2 c3 c4
  have c0 := M13.out.cell 0
  have c1 := M13.out.cell 1
  have c2 := M13.out.cell 2
  have c3 := M13.out.cell 3
  have c4 := M13.out.cell 4
  simp at c0 c1 c2 c3 c4
  go_wp2_with fail
  clear c0 c1 c2 c3 c4
  have g14 := segs_f 14 true false false false (by decide) (by decide) w13
  rw [exS14] at g14
  refine g14.mono ?_
  rintro e w14 ⟨sa, ma, rfl, hH, hb⟩
  have C14 := Lib.hid (C13.out.below hb)
  have B14 := Lib.hid (below_call B13.out hb)
  clear hb g14 C13 B13 M13
  have hA := below_alloc (Below.refl _ w14) (.cells #[.int .i64 10, .int .i64 2, .int .i64 1, .int .i64 1] 3)
  have hS := same14_t (w14.alloc (.cells #[.int .i64 10, .int .i64 2, .int .i64 1, .int .i64 1] 3)) [10, 2, 1, 1] sa (some ⟨w14.heap.size, 0, none⟩) 4 ma 4 rfl (hH.call hA) (holds_four _ _ _ _ _) (by decide)
  have C15 := Lib.hid (C14.out.below hA)
  have B15 := Lib.hid (below_call B14.out hA)
  clear hA hH C14 B14
  go_wp2_with fail
  refine hS.mono ?_
  rintro e w15 ⟨rfl, hb⟩
  have C16 := Lib.hid (C15.out.below hb)
  have B16 := Lib.hid (below_call B15.out hb)
  clear hb hS C15 B15
  have g3 := segs_t 3 false false false false (by decide) (by decide) w15
  rw [exS3] at g3
  go_wp2_with fail
  refine g3.mono ?_
  rintro e w16 ⟨sb, mb, rfl, hH, hb⟩
  have C17 := Lib.hid (C16.out.below hb)
  have B17 := Lib.hid (below_call B16.out hb)
  clear hb g3 C16 B16
  have hA := below_alloc (Below.refl _ w16) (.cells #[.int .i64 1, .int .i64 1, .int .i64 1] 3)
  have hS := same14_t (w16.alloc (.cells #[.int .i64 1, .int .i64 1, .int .i64 1] 3)) [1, 1, 1] sb (some ⟨w16.heap.size, 0, none⟩) 3 mb 3 rfl (hH.call hA) (holds_three _ _ _ _) (by decide)
  have C18 := Lib.hid (C17.out.below hA)
  have B18 := Lib.hid (below_call B17.out hA)
  clear hA hH C17 B17
  go_wp2_with fail
  refine hS.mono ?_
  rintro e w17 ⟨rfl, hb⟩
  have C19 := Lib.hid (C18.out.below hb)
  have B19 := Lib.hid (below_call B18.out hb)
  clear hb hS C18 B18
  go_wp2_with fail
  have sc := scan_yes 2 5 (by unfold fits; decide) w17
  unfold GivesP at sc
  rw [exScan] at sc
  refine sc.mono ?_
  rintro e w18 ⟨ss, ms, rfl, _, hb⟩
  have C20 := Lib.hid (C19.out.below hb)
  have B20 := Lib.hid (below_call B19.out hb)
  clear hb sc C19 B19
  have s4 := set_c C20.out 3 0 1
  rw [show setE 3 5 3 0 1 = 2 by decide] at s4
  go_wp2_with fail
  refine s4.mono ?_
  rintro e w19 hg
  obtain ⟨rfl, hC, hB⟩ := CGives.run B20.out.size hg
  have C21 := Lib.hid hC
  have B21 := Lib.hid (B20.out.trans hB)
  clear hC hB hg s4 C20 B20
  have s5 := set_c C21.out 0 0 1152921504606846976
  rw [show setE 3 5 0 0 1152921504606846976 = 2 by decide] at s5
  go_wp2_with fail
  refine s5.mono ?_
  rintro e w20 hg
  obtain ⟨rfl, hC, hB⟩ := CGives.run B21.out.size hg
  have B22 := Lib.hid (B21.out.trans hB)
  clear hC hB hg s5 C21 B21
  go_wp2_with fail
  go_ret
  exact ⟨rfl, B22.out⟩
end Go.Proofs.Ytdpfojenljejiaa
