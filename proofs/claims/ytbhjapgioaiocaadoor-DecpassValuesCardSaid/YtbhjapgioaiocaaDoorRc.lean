/-
  Layer 14: the reference's block: Neighbors, Signs.
-/
import Derived.Test.YtbhjapgioaiocaaDoorRa
import Derived.Test.YtbhjapgioaiocaaDoorPf
set_option maxRecDepth 100000
namespace Go.Proofs.YtbhjapgioaiocaaDoor
open Go.RowKit

section
variable {W W' : World} {B A C w h : Nat} {q : St}
theorem rcount_c (H : Rb W B A C w h q) (x y : Int) : Calls Tryd.prog 129 #[.pointer (some ⟨A, 0, none⟩), .int .i64 x, .int .i64 y] W fun e w' => e = .returned (.int .i64 (cn q x y)) ∧ Below W.heap.size W w' := by
  have g := get_c H x y
  unfold cellV at g
  unfold cn
  have f1 := fld1
  generalize q.s x y = s at *
  clear H
  cases s
  · go_enter Tryd.func129, Tryd.ntmps129
    go_wp2_with fail
    refine g.mono ?_
    rintro e w1 ⟨rfl, hb⟩
    go_wp2_with fail
    go_ret
    exact ⟨rfl, hb⟩
  · go_enter Tryd.func129, Tryd.ntmps129
    go_wp2_with fail
    refine g.mono ?_
    rintro e w1 ⟨rfl, hb⟩
    go_wp2_with fail
    go_ret
    exact ⟨rfl, hb⟩
theorem rsign_c (H : Rb W B A C w h q) (x y : Int) : Calls Tryd.prog 142 #[.pointer (some ⟨A, 0, none⟩), .int .i64 x, .int .i64 y] W fun e w' => e = .returned (.int .i64 (sg q x y)) ∧ Below W.heap.size W w' := by
  have g := get_c H x y
  unfold cellV at g
  unfold sg
  generalize q.s x y = s at *
  generalize q.v x y = v at *
  clear H
  cases s
  · go_enter Tryd.func142, Tryd.ntmps142
    go_wp2_with fail
    refine g.mono ?_
    rintro e w1 ⟨rfl, hb⟩
    have HB := Lib.hid (below_call hb (below_alloc (Below.refl _ w1) (.cells #[.int .i64 v, .bool false, .bool (q.t x y), .bool (q.r x y)] 110)))
    clear hb
    go_wp2_with fail
    go_ret
    exact ⟨rfl, HB.out⟩
  · by_cases hv : v < 0
    · rw [if_pos rfl, if_pos hv]
      go_enter Tryd.func142, Tryd.ntmps142
      go_wp2_with fail
      refine g.mono ?_
      rintro e w1 ⟨rfl, hb⟩
      have HB := Lib.hid (below_call hb (below_alloc (Below.refl _ w1) (.cells #[.int .i64 v, .bool true, .bool (q.t x y), .bool (q.r x y)] 110)))
      clear hb
      go_wp2_with fail
      go_ret
      exact ⟨rfl, HB.out⟩
    · rw [if_pos rfl, if_neg hv]
      go_enter Tryd.func142, Tryd.ntmps142
      go_wp2_with fail
      refine g.mono ?_
      rintro e w1 ⟨rfl, hb⟩
      have HB := Lib.hid (below_call hb (below_alloc (Below.refl _ w1) (.cells #[.int .i64 v, .bool true, .bool (q.t x y), .bool (q.r x y)] 110)))
      clear hb
      go_wp2_with fail
      go_ret
      exact ⟨rfl, HB.out⟩
def NGivesB (a b c : Int) (W : World) (e : Ending) (w' : World) : Prop := e = .returned (.tuple #[.int .i64 a, .int .i64 b, .int .i64 c]) ∧ Below W.heap.size W w'
theorem rnb_o (H : Rb W B A C w h q) (x y : Int) (c : Bool) (hin : ¬ inB w h x y) : Calls Tryd.prog 117 #[.pointer (some ⟨A, 0, none⟩), .int .i64 x, .int .i64 y, .bool c] W (NGivesB 0 0 0 W) := by
  have i := rin_c H x y
  rw [show decide (inB w h x y) = false by simpa using hin] at i
  clear H hin
  go_enter Tryd.func117, Tryd.ntmps117
  go_wp2_with (first | (go_at_call 111; (with_reducible refine i.mono ?_); rintro e wn ⟨rfl, rfl⟩))
  go_ret3
  exact ⟨rfl, Below.refl _ _⟩
theorem rsgs_o (H : Rb W B A C w h q) (x y : Int) (c : Bool) (hin : ¬ inB w h x y) : Calls Tryd.prog 133 #[.pointer (some ⟨A, 0, none⟩), .int .i64 x, .int .i64 y, .bool c] W fun e w' => e = .returned (.tuple #[.int .i64 0, .int .i64 0]) ∧ Below W.heap.size W w' := by
  have i := rin_c H x y
  rw [show decide (inB w h x y) = false by simpa using hin] at i
  clear H hin
  go_enter Tryd.func133, Tryd.ntmps133
  go_wp2_with (first | (go_at_call 111; (with_reducible refine i.mono ?_); rintro e wn ⟨rfl, rfl⟩))
  go_ret2
  exact ⟨rfl, Below.refl _ _⟩
set_option maxHeartbeats 4000000 in
theorem rnb_y (H : Rb W B A C w h q) (x y : Int) (c : Bool) (hin : inB w h x y) : Calls Tryd.prog 117 #[.pointer (some ⟨A, 0, none⟩), .int .i64 x, .int .i64 y, .bool c] W (NGivesB (nbH q x y) (nbV q x y c) (nbD q x y c) W) := by
  have i := rin_c H x y
  rw [show decide (inB w h x y) = true by simpa using hin] at i
  obtain ⟨h1, h2, h3, h4⟩ := hin
  have hfit : (w : Int) ≤ 64 ∧ (h : Int) ≤ 64 := by have := H.fit; unfold fits at this; omega
  obtain ⟨hf1, hf2⟩ := hfit
  have hx : x ≤ 64 := by omega
  have hy : y ≤ 64 := by omega
  have kl := fun W' (hb : Below W.heap.size W W') => rcount_c (H.below hb) (x - 1) y
  have kr := fun W' (hb : Below W.heap.size W W') => rcount_c (H.below hb) (x + 1) y
  have ku := fun W' (hb : Below W.heap.size W W') => rcount_c (H.below hb) x (y - 1)
  have kul := fun W' (hb : Below W.heap.size W W') => rcount_c (H.below hb) (x - 1) (y - 1)
  have kur := fun W' (hb : Below W.heap.size W W') => rcount_c (H.below hb) (x + 1) (y - 1)
  have kd := fun W' (hb : Below W.heap.size W W') => rcount_c (H.below hb) x (y + 1)
  have kdl := fun W' (hb : Below W.heap.size W W') => rcount_c (H.below hb) (x - 1) (y + 1)
  have kdr := fun W' (hb : Below W.heap.size W W') => rcount_c (H.below hb) (x + 1) (y + 1)
  have al := cn_in q (x - 1) y
  have ar := cn_in q (x + 1) y
  have au := cn_in q x (y - 1)
  have aul := cn_in q (x - 1) (y - 1)
  have aur := cn_in q (x + 1) (y - 1)
  have ad := cn_in q x (y + 1)
  have adl := cn_in q (x - 1) (y + 1)
  have adr := cn_in q (x + 1) (y + 1)
  unfold nbH nbV nbD
  generalize cn q (x - 1) y = nl at *
  generalize cn q (x + 1) y = nr at *
  generalize cn q x (y - 1) = nu at *
  generalize cn q (x - 1) (y - 1) = nul at *
  generalize cn q (x + 1) (y - 1) = nur at *
  generalize cn q x (y + 1) = nd at *
  generalize cn q (x - 1) (y + 1) = ndl at *
  generalize cn q (x + 1) (y + 1) = ndr at *
  obtain ⟨al1, al2⟩ := al
  obtain ⟨ar1, ar2⟩ := ar
  obtain ⟨au1, au2⟩ := au
  obtain ⟨aul1, aul2⟩ := aul
  obtain ⟨aur1, aur2⟩ := aur
  obtain ⟨ad1, ad2⟩ := ad
  obtain ⟨adl1, adl2⟩ := adl
  obtain ⟨adr1, adr2⟩ := adr
  have HB0 : Hid (Below W.heap.size W W) := Below.refl _ _
  clear H hf1 hf2 h2 h4
  cases c with
  | false =>
    · have e : hid y false = false := rfl
      rw [e, if_neg (by decide), if_neg (by decide)]
      clear e
      rw [show nul + nur + (ndl + ndr) = nul + nur + ndl + ndr by omega]
      go_enter Tryd.func117, Tryd.ntmps117
      go_wp2_with (first | (go_at_call 111; (with_reducible refine i.mono ?_); rintro e wn ⟨rfl, rfl⟩))
      refine (kl _ HB0.out).mono ?_
      rintro e wl ⟨rfl, hl⟩
      have Hl := Lib.hid (below_call HB0.out hl)
      clear hl
      go_wp2_with fail
      refine (kr _ Hl.out).mono ?_
      rintro e wr ⟨rfl, hr⟩
      have Hr := Lib.hid (below_call Hl.out hr)
      clear hr
      go_wp2_with fail
      refine (ku _ Hr.out).mono ?_
      rintro e wu ⟨rfl, hu⟩
      have Hu := Lib.hid (below_call Hr.out hu)
      clear hu
      go_wp2_with fail
      refine (kul _ Hu.out).mono ?_
      rintro e wul ⟨rfl, hul⟩
      have Hul := Lib.hid (below_call Hu.out hul)
      clear hul
      go_wp2_with fail
      refine (kur _ Hul.out).mono ?_
      rintro e wur ⟨rfl, hur⟩
      have Hur := Lib.hid (below_call Hul.out hur)
      clear hur
      go_wp2_with fail
      refine (kd _ Hur.out).mono ?_
      rintro e wd ⟨rfl, hd⟩
      have Hd := Lib.hid (below_call Hur.out hd)
      clear hd
      go_wp2_with fail
      refine (kdl _ Hd.out).mono ?_
      rintro e wdl ⟨rfl, hdl⟩
      have Hdl := Lib.hid (below_call Hd.out hdl)
      clear hdl
      go_wp2_with fail
      refine (kdr _ Hdl.out).mono ?_
      rintro e wdr ⟨rfl, hdr⟩
      have Hdr := Lib.hid (below_call Hdl.out hdr)
      clear hdr
      go_wp2_with fail
      go_ret3
      exact ⟨by first | rfl | (congr 4 <;> omega), Hdr.out⟩
  | true =>
    by_cases hm : y % 4 = 3
    · have e : hid y true = true := by unfold hid; simp [hm]
      have e2 : (y % 4 != 3) = false := by simp [hm]
      rw [e, if_pos rfl, if_pos rfl, Int.add_zero, Int.add_zero]
      clear e hm
      go_enter Tryd.func117, Tryd.ntmps117
      go_wp2_with (first | (go_at_call 111; (with_reducible refine i.mono ?_); rintro e wn ⟨rfl, rfl⟩))
      refine (kl _ HB0.out).mono ?_
      rintro e wl ⟨rfl, hl⟩
      have Hl := Lib.hid (below_call HB0.out hl)
      clear hl
      go_wp2_with fail
      refine (kr _ Hl.out).mono ?_
      rintro e wr ⟨rfl, hr⟩
      have Hr := Lib.hid (below_call Hl.out hr)
      clear hr
      go_wp2_with fail
      refine (ku _ Hr.out).mono ?_
      rintro e wu ⟨rfl, hu⟩
      have Hu := Lib.hid (below_call Hr.out hu)
      clear hu
      go_wp2_with fail
      refine (kul _ Hu.out).mono ?_
      rintro e wul ⟨rfl, hul⟩
      have Hul := Lib.hid (below_call Hu.out hul)
      clear hul
      go_wp2_with fail
      refine (kur _ Hul.out).mono ?_
      rintro e wur ⟨rfl, hur⟩
      have Hur := Lib.hid (below_call Hul.out hur)
      clear hur
      go_wp2_with fail
      go_ret3
      exact ⟨by first | rfl | (congr 4 <;> omega), Hur.out⟩
    · have e : hid y true = false := by unfold hid; simp [hm]
      have e2 : (y % 4 != 3) = true := by simp [hm]
      rw [e, if_neg (by decide), if_neg (by decide)]
      clear e hm
      rw [show nul + nur + (ndl + ndr) = nul + nur + ndl + ndr by omega]
      go_enter Tryd.func117, Tryd.ntmps117
      go_wp2_with (first | (go_at_call 111; (with_reducible refine i.mono ?_); rintro e wn ⟨rfl, rfl⟩))
      refine (kl _ HB0.out).mono ?_
      rintro e wl ⟨rfl, hl⟩
      have Hl := Lib.hid (below_call HB0.out hl)
      clear hl
      go_wp2_with fail
      refine (kr _ Hl.out).mono ?_
      rintro e wr ⟨rfl, hr⟩
      have Hr := Lib.hid (below_call Hl.out hr)
      clear hr
      go_wp2_with fail
      refine (ku _ Hr.out).mono ?_
      rintro e wu ⟨rfl, hu⟩
      have Hu := Lib.hid (below_call Hr.out hu)
      clear hu
      go_wp2_with fail
      refine (kul _ Hu.out).mono ?_
      rintro e wul ⟨rfl, hul⟩
      have Hul := Lib.hid (below_call Hu.out hul)
      clear hul
      go_wp2_with fail
      refine (kur _ Hul.out).mono ?_
      rintro e wur ⟨rfl, hur⟩
      have Hur := Lib.hid (below_call Hul.out hur)
      clear hur
      go_wp2_with fail
      refine (kd _ Hur.out).mono ?_
      rintro e wd ⟨rfl, hd⟩
      have Hd := Lib.hid (below_call Hur.out hd)
      clear hd
      go_wp2_with fail
      refine (kdl _ Hd.out).mono ?_
      rintro e wdl ⟨rfl, hdl⟩
      have Hdl := Lib.hid (below_call Hd.out hdl)
      clear hdl
      go_wp2_with fail
      refine (kdr _ Hdl.out).mono ?_
      rintro e wdr ⟨rfl, hdr⟩
      have Hdr := Lib.hid (below_call Hdl.out hdr)
      clear hdr
      go_wp2_with fail
      go_ret3
      exact ⟨by first | rfl | (congr 4 <;> omega), Hdr.out⟩
theorem rnb_c (H : Rb W B A C w h q) (x y : Int) (c : Bool) : Calls Tryd.prog 117 #[.pointer (some ⟨A, 0, none⟩), .int .i64 x, .int .i64 y, .bool c] W (NGivesB (if inB w h x y then nbH q x y else 0) (if inB w h x y then nbV q x y c else 0) (if inB w h x y then nbD q x y c else 0) W) := by
  by_cases hin : inB w h x y
  · rw [if_pos hin, if_pos hin, if_pos hin]; exact rnb_y H x y c hin
  · rw [if_neg hin, if_neg hin, if_neg hin]; exact rnb_o H x y c hin
set_option maxHeartbeats 4000000 in
theorem rsgs_y (H : Rb W B A C w h q) (x y : Int) (c : Bool) (hin : inB w h x y) : Calls Tryd.prog 133 #[.pointer (some ⟨A, 0, none⟩), .int .i64 x, .int .i64 y, .bool c] W fun e w' => e = .returned (.tuple #[.int .i64 (sgH q x y), .int .i64 (sgV q x y c)]) ∧ Below W.heap.size W w' := by
  have i := rin_c H x y
  rw [show decide (inB w h x y) = true by simpa using hin] at i
  obtain ⟨h1, h2, h3, h4⟩ := hin
  have hfit : (w : Int) ≤ 64 ∧ (h : Int) ≤ 64 := by have := H.fit; unfold fits at this; omega
  obtain ⟨hf1, hf2⟩ := hfit
  have hx : x ≤ 64 := by omega
  have hy : y ≤ 64 := by omega
  have kl := fun W' (hb : Below W.heap.size W W') => rsign_c (H.below hb) (x - 1) y
  have kr := fun W' (hb : Below W.heap.size W W') => rsign_c (H.below hb) (x + 1) y
  have ku := fun W' (hb : Below W.heap.size W W') => rsign_c (H.below hb) x (y - 1)
  have kd := fun W' (hb : Below W.heap.size W W') => rsign_c (H.below hb) x (y + 1)
  have al := sg_in q (x - 1) y
  have ar := sg_in q (x + 1) y
  have au := sg_in q x (y - 1)
  have ad := sg_in q x (y + 1)
  unfold sgH sgV
  generalize sg q (x - 1) y = nl at *
  generalize sg q (x + 1) y = nr at *
  generalize sg q x (y - 1) = nu at *
  generalize sg q x (y + 1) = nd at *
  have j1 := fun W => conR_c nl nr al ar W
  have j2 := fun W => conR_c nu 0 au ⟨by decide, by decide⟩ W
  have j3 := fun W => conR_c nu nd au ad W
  have HB0 : Hid (Below W.heap.size W W) := Below.refl _ _
  clear H hf1 hf2 h2 h4 al ar au ad
  cases c with
  | false =>
    · have e : hid y false = false := rfl
      rw [e, if_neg (by decide)]
      clear e
      generalize jnt nl nr = J1 at *
      generalize jnt nu nd = J2 at *
      go_enter Tryd.func133, Tryd.ntmps133
      go_wp2_with (first | (go_at_call 111; (with_reducible refine i.mono ?_); rintro e wn ⟨rfl, rfl⟩))
      refine (kd _ HB0.out).mono ?_
      rintro e wd ⟨rfl, hd⟩
      have Hd := Lib.hid (below_call HB0.out hd)
      clear hd
      go_wp2_with (first | (go_at_call 143; first | ((with_reducible refine (j1 _).mono ?_); rintro e wn ⟨rfl, rfl⟩) | ((with_reducible refine (j3 _).mono ?_); rintro e wn ⟨rfl, rfl⟩)))
      refine (kl _ Hd.out).mono ?_
      rintro e wl ⟨rfl, hl⟩
      have Hl := Lib.hid (below_call Hd.out hl)
      clear hl
      go_wp2_with (first | (go_at_call 143; first | ((with_reducible refine (j1 _).mono ?_); rintro e wn ⟨rfl, rfl⟩) | ((with_reducible refine (j3 _).mono ?_); rintro e wn ⟨rfl, rfl⟩)))
      refine (kr _ Hl.out).mono ?_
      rintro e wr ⟨rfl, hr⟩
      have Hr := Lib.hid (below_call Hl.out hr)
      clear hr
      go_wp2_with (first | (go_at_call 143; first | ((with_reducible refine (j1 _).mono ?_); rintro e wn ⟨rfl, rfl⟩) | ((with_reducible refine (j3 _).mono ?_); rintro e wn ⟨rfl, rfl⟩)))
      refine (ku _ Hr.out).mono ?_
      rintro e wu ⟨rfl, hu⟩
      have Hu := Lib.hid (below_call Hr.out hu)
      clear hu
      go_wp2_with (first | (go_at_call 143; first | ((with_reducible refine (j1 _).mono ?_); rintro e wn ⟨rfl, rfl⟩) | ((with_reducible refine (j3 _).mono ?_); rintro e wn ⟨rfl, rfl⟩)))
      go_ret2
      exact ⟨rfl, Hu.out⟩
  | true =>
    by_cases hm : y % 4 = 3
    · have e : hid y true = true := by unfold hid; simp [hm]
      have e2 : (y % 4 == 3) = true := by simp [hm]
      rw [e, if_pos rfl]
      clear e hm
      generalize jnt nl nr = J1 at *
      generalize jnt nu 0 = J2 at *
      go_enter Tryd.func133, Tryd.ntmps133
      go_wp2_with (first | (go_at_call 111; (with_reducible refine i.mono ?_); rintro e wn ⟨rfl, rfl⟩))
      refine (kd _ HB0.out).mono ?_
      rintro e wd ⟨rfl, hd⟩
      have Hd := Lib.hid (below_call HB0.out hd)
      clear hd
      go_wp2_with (first | (go_at_call 143; first | ((with_reducible refine (j1 _).mono ?_); rintro e wn ⟨rfl, rfl⟩) | ((with_reducible refine (j2 _).mono ?_); rintro e wn ⟨rfl, rfl⟩)))
      refine (kl _ Hd.out).mono ?_
      rintro e wl ⟨rfl, hl⟩
      have Hl := Lib.hid (below_call Hd.out hl)
      clear hl
      go_wp2_with (first | (go_at_call 143; first | ((with_reducible refine (j1 _).mono ?_); rintro e wn ⟨rfl, rfl⟩) | ((with_reducible refine (j2 _).mono ?_); rintro e wn ⟨rfl, rfl⟩)))
      refine (kr _ Hl.out).mono ?_
      rintro e wr ⟨rfl, hr⟩
      have Hr := Lib.hid (below_call Hl.out hr)
      clear hr
      go_wp2_with (first | (go_at_call 143; first | ((with_reducible refine (j1 _).mono ?_); rintro e wn ⟨rfl, rfl⟩) | ((with_reducible refine (j2 _).mono ?_); rintro e wn ⟨rfl, rfl⟩)))
      refine (ku _ Hr.out).mono ?_
      rintro e wu ⟨rfl, hu⟩
      have Hu := Lib.hid (below_call Hr.out hu)
      clear hu
      go_wp2_with (first | (go_at_call 143; first | ((with_reducible refine (j1 _).mono ?_); rintro e wn ⟨rfl, rfl⟩) | ((with_reducible refine (j2 _).mono ?_); rintro e wn ⟨rfl, rfl⟩)))
      go_ret2
      exact ⟨rfl, Hu.out⟩
    · have e : hid y true = false := by unfold hid; simp [hm]
      have e2 : (y % 4 == 3) = false := by simp [hm]
      rw [e, if_neg (by decide)]
      clear e hm
      generalize jnt nl nr = J1 at *
      generalize jnt nu nd = J2 at *
      go_enter Tryd.func133, Tryd.ntmps133
      go_wp2_with (first | (go_at_call 111; (with_reducible refine i.mono ?_); rintro e wn ⟨rfl, rfl⟩))
      refine (kd _ HB0.out).mono ?_
      rintro e wd ⟨rfl, hd⟩
      have Hd := Lib.hid (below_call HB0.out hd)
      clear hd
      go_wp2_with (first | (go_at_call 143; first | ((with_reducible refine (j1 _).mono ?_); rintro e wn ⟨rfl, rfl⟩) | ((with_reducible refine (j3 _).mono ?_); rintro e wn ⟨rfl, rfl⟩)))
      refine (kl _ Hd.out).mono ?_
      rintro e wl ⟨rfl, hl⟩
      have Hl := Lib.hid (below_call Hd.out hl)
      clear hl
      go_wp2_with (first | (go_at_call 143; first | ((with_reducible refine (j1 _).mono ?_); rintro e wn ⟨rfl, rfl⟩) | ((with_reducible refine (j3 _).mono ?_); rintro e wn ⟨rfl, rfl⟩)))
      refine (kr _ Hl.out).mono ?_
      rintro e wr ⟨rfl, hr⟩
      have Hr := Lib.hid (below_call Hl.out hr)
      clear hr
      go_wp2_with (first | (go_at_call 143; first | ((with_reducible refine (j1 _).mono ?_); rintro e wn ⟨rfl, rfl⟩) | ((with_reducible refine (j3 _).mono ?_); rintro e wn ⟨rfl, rfl⟩)))
      refine (ku _ Hr.out).mono ?_
      rintro e wu ⟨rfl, hu⟩
      have Hu := Lib.hid (below_call Hr.out hu)
      clear hu
      go_wp2_with (first | (go_at_call 143; first | ((with_reducible refine (j1 _).mono ?_); rintro e wn ⟨rfl, rfl⟩) | ((with_reducible refine (j3 _).mono ?_); rintro e wn ⟨rfl, rfl⟩)))
      go_ret2
      exact ⟨rfl, Hu.out⟩
theorem rsgs_c (H : Rb W B A C w h q) (x y : Int) (c : Bool) : Calls Tryd.prog 133 #[.pointer (some ⟨A, 0, none⟩), .int .i64 x, .int .i64 y, .bool c] W fun e w' => e = .returned (.tuple #[.int .i64 (if inB w h x y then sgH q x y else 0), .int .i64 (if inB w h x y then sgV q x y c else 0)]) ∧ Below W.heap.size W w' := by
  by_cases hin : inB w h x y
  · rw [if_pos hin, if_pos hin]; exact rsgs_y H x y c hin
  · rw [if_neg hin, if_neg hin]; exact rsgs_o H x y c hin
end
end Go.Proofs.YtbhjapgioaiocaaDoor
