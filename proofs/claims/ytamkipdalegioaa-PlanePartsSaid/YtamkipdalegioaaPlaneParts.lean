/-
  For all planes p and src and all pairs of rectangles the statement PlaneParts returns true (planes that are not valid, or of more than 20 columns or rows, are left alone), and its arguments read afterwards as before.
  Conditions: none beyond those of the given statement.
-/
import Derived.Test.YtamkipdalegioaaFrame
import Derived.Test.YtamkipdalegioaaPlnS
import Derived.Test.YtamkipdalegioaaOpenP
namespace Go.Proofs.Ytamkipdalegioaa.planeParts
open Go.ChangeShapes Go.WideShapes Go.ChangeAt Go.RowKit Go.Joins Go.Deep

theorem arr_at (W : World) (B : Nat) (hB : B = W.heap.size) (e f g h e' f' g' h' : Int) :
    ((W.alloc (.cells #[.int .i64 e, .int .i64 f, .int .i64 g, .int .i64 h, .int .i64 e', .int .i64 f', .int .i64 g', .int .i64 h'] 47)).cell? ⟨B, 0, none⟩ = some (.int .i64 e) ∧ (W.alloc (.cells #[.int .i64 e, .int .i64 f, .int .i64 g, .int .i64 h, .int .i64 e', .int .i64 f', .int .i64 g', .int .i64 h'] 47)).cell? ⟨B, 1, none⟩ = some (.int .i64 f) ∧ (W.alloc (.cells #[.int .i64 e, .int .i64 f, .int .i64 g, .int .i64 h, .int .i64 e', .int .i64 f', .int .i64 g', .int .i64 h'] 47)).cell? ⟨B, 2, none⟩ = some (.int .i64 g) ∧ (W.alloc (.cells #[.int .i64 e, .int .i64 f, .int .i64 g, .int .i64 h, .int .i64 e', .int .i64 f', .int .i64 g', .int .i64 h'] 47)).cell? ⟨B, 3, none⟩ = some (.int .i64 h) ∧ (W.alloc (.cells #[.int .i64 e, .int .i64 f, .int .i64 g, .int .i64 h, .int .i64 e', .int .i64 f', .int .i64 g', .int .i64 h'] 47)).cell? ⟨B, 4, none⟩ = some (.int .i64 e') ∧ (W.alloc (.cells #[.int .i64 e, .int .i64 f, .int .i64 g, .int .i64 h, .int .i64 e', .int .i64 f', .int .i64 g', .int .i64 h'] 47)).cell? ⟨B, 5, none⟩ = some (.int .i64 f') ∧ (W.alloc (.cells #[.int .i64 e, .int .i64 f, .int .i64 g, .int .i64 h, .int .i64 e', .int .i64 f', .int .i64 g', .int .i64 h'] 47)).cell? ⟨B, 6, none⟩ = some (.int .i64 g') ∧ (W.alloc (.cells #[.int .i64 e, .int .i64 f, .int .i64 g, .int .i64 h, .int .i64 e', .int .i64 f', .int .i64 g', .int .i64 h'] 47)).cell? ⟨B, 7, none⟩ = some (.int .i64 h')) ∧ B < (W.alloc (.cells #[.int .i64 e, .int .i64 f, .int .i64 g, .int .i64 h, .int .i64 e', .int .i64 f', .int .i64 g', .int .i64 h'] 47)).heap.size := by
  subst hB
  simp
theorem arr8 (T : Array Value) (h : T.size = 8) : ∃ v0 v1 v2 v3 v4 v5 v6 v7, T = #[v0, v1, v2, v3, v4, v5, v6, v7] := by
  obtain ⟨l⟩ := T
  match l, h with
  | [v0, v1, v2, v3, v4, v5, v6, v7], _ => exact ⟨v0, v1, v2, v3, v4, v5, v6, v7, rfl⟩
theorem cellsR2 : Try.prog.cellsOf 47 = 8 := by kernel_rfl
/-- Two rectangles by value. -/
theorem open_rects2 {H : Type} {enc : TypeId × Value → H} {w : World} {r : Reach} {b0 base : Nat} {spare : Nat → Bool} {held : Bool} {v : Value} {d : DataW H} {p : List MemPlace}
    (hv : Value.okWide Try.prog w r b0 47 v) (h : DataW.Trod enc Try.prog w base spare held 47 v d p) :
    ∃ e f g h e' f' g' h' : Int, v = .agg #[.int .i64 e, .int .i64 f, .int .i64 g, .int .i64 h, .int .i64 e', .int .i64 f', .int .i64 g', .int .i64 h'] := by
  obtain ⟨cs, rfl, hsz⟩ : ∃ cs : Array Value, v = .agg cs ∧ cs.size = Try.prog.cellsOf 47 := by
    simp only [Value.okWide, Try.underlying47] at hv
    obtain ⟨cs, h1, h2, _⟩ := hv
    exact ⟨cs, h1, h2⟩
  obtain ⟨c0, c1, c2, c3, c4, c5, c6, c7, rfl⟩ := arr8 _ (hsz.trans cellsR2)
  obtain ⟨fuel, hf⟩ := h
  obtain ⟨xs, m, _, _, _, hl, hi⟩ := DataW.trod_array Try.underlying47 hf
  rw [cellsR] at hi
  match xs, hl with
  | [z0, z1], _ =>
    have t0 := hi 0 (by omega)
    have t1 := hi 1 (by omega)
    simp [Value.cells] at t0 t1
    obtain ⟨_, _, _, _, _, _, _, u0, u1, u2, u3⟩ := Go.Joins.trod_struct4 Try.underlying23 t0
    obtain ⟨_, _, _, _, _, _, _, u4, u5, u6, u7⟩ := Go.Joins.trod_struct4 Try.underlying23 t1
    simp only [cellsI] at u0 u1 u2 u3 u4 u5 u6 u7
    obtain ⟨x0, e0, _, _⟩ := DataW.trod_int Try.underlying3 u0
    obtain ⟨x1, e1, _, _⟩ := DataW.trod_int Try.underlying3 u1
    obtain ⟨x2, e2, _, _⟩ := DataW.trod_int Try.underlying3 u2
    obtain ⟨x3, e3, _, _⟩ := DataW.trod_int Try.underlying3 u3
    obtain ⟨x4, e4, _, _⟩ := DataW.trod_int Try.underlying3 u4
    obtain ⟨x5, e5, _, _⟩ := DataW.trod_int Try.underlying3 u5
    obtain ⟨x6, e6, _, _⟩ := DataW.trod_int Try.underlying3 u6
    obtain ⟨x7, e7, _, _⟩ := DataW.trod_int Try.underlying3 u7
    simp at e0 e1 e2 e3 e4 e5 e6 e7
    subst e0 e1 e2 e3 e4 e5 e6 e7
    exact ⟨x0, x1, x2, x3, x4, x5, x6, x7, rfl⟩
set_option maxRecDepth 100000 in
set_option maxHeartbeats 2000000 in
theorem walk (a b c d a' b' c' d' e f g h e' f' g' h' : Int) (s t : Option Addr) (l k : List Int) (m m' : Nat) (hm : l.length ≤ m) (hm' : k.length ≤ m') (hn : s = none → l.length = 0 ∧ m = 0) (w : World) (hH : HoldsI w s l) (hK : HoldsI w t k) :
    Calls Try.prog 9 #[.agg #[.int .i64 a, .int .i64 b, .int .i64 c, .int .i64 d, .slice s l.length m], .agg #[.int .i64 a', .int .i64 b', .int .i64 c', .int .i64 d', .slice t k.length m'], .agg #[.int .i64 e, .int .i64 f, .int .i64 g, .int .i64 h, .int .i64 e', .int .i64 f', .int .i64 g', .int .i64 h']] w fun e w' => e = .returned (.bool true) ∧ Below w.heap.size w w' := by
  have heq := eqR
  have hself := Pl.eq_self
  have p := (QBox.freshAt w (w.heap.size) (rfl) a b c d s l.length m 26).alloc (.cells #[.int .i64 a', .int .i64 b', .int .i64 c', .int .i64 d', .slice t k.length m'] 26)
  have q := QBox.freshAt (w.alloc (.cells #[.int .i64 a, .int .i64 b, .int .i64 c, .int .i64 d, .slice s l.length m] 26)) (w.heap.size + 1) (by simp) a' b' c' d' t k.length m' 26
  have B := below_alloc (below_alloc (Below.refl _ w) (.cells #[.int .i64 a, .int .i64 b, .int .i64 c, .int .i64 d, .slice s l.length m] 26)) (.cells #[.int .i64 a', .int .i64 b', .int .i64 c', .int .i64 d', .slice t k.length m'] 26)
  have lp := ((hH).alloc (.cells #[.int .i64 a, .int .i64 b, .int .i64 c, .int .i64 d, .slice s l.length m] 26)).alloc (.cells #[.int .i64 a', .int .i64 b', .int .i64 c', .int .i64 d', .slice t k.length m'] 26)
  have lq := ((hK).alloc (.cells #[.int .i64 a, .int .i64 b, .int .i64 c, .int .i64 d, .slice s l.length m] 26)).alloc (.cells #[.int .i64 a', .int .i64 b', .int .i64 c', .int .i64 d', .slice t k.length m'] 26)
  replace p := p.alloc (.cells #[.int .i64 e, .int .i64 f, .int .i64 g, .int .i64 h, .int .i64 e', .int .i64 f', .int .i64 g', .int .i64 h'] 47)
  replace q := q.alloc (.cells #[.int .i64 e, .int .i64 f, .int .i64 g, .int .i64 h, .int .i64 e', .int .i64 f', .int .i64 g', .int .i64 h'] 47)
  replace lp := lp.alloc (.cells #[.int .i64 e, .int .i64 f, .int .i64 g, .int .i64 h, .int .i64 e', .int .i64 f', .int .i64 g', .int .i64 h'] 47)
  replace lq := lq.alloc (.cells #[.int .i64 e, .int .i64 f, .int .i64 g, .int .i64 h, .int .i64 e', .int .i64 f', .int .i64 g', .int .i64 h'] 47)
  replace B := below_alloc B (.cells #[.int .i64 e, .int .i64 f, .int .i64 g, .int .i64 h, .int .i64 e', .int .i64 f', .int .i64 g', .int .i64 h'] 47)
  obtain ⟨r8, r8l⟩ := arr_at ((w.alloc (.cells #[.int .i64 a, .int .i64 b, .int .i64 c, .int .i64 d, .slice s l.length m] 26)).alloc (.cells #[.int .i64 a', .int .i64 b', .int .i64 c', .int .i64 d', .slice t k.length m'] 26)) (w.heap.size + 1 + 1) (by simp) e f g h e' f' g' h'
  go_enter Try.func9, Try.ntmps9
  go_wp2_with fail
  generalize (((w.alloc (.cells #[.int .i64 a, .int .i64 b, .int .i64 c, .int .i64 d, .slice s l.length m] 26)).alloc (.cells #[.int .i64 a', .int .i64 b', .int .i64 c', .int .i64 d', .slice t k.length m'] 26)).alloc (.cells #[.int .i64 e, .int .i64 f, .int .i64 g, .int .i64 h, .int .i64 e', .int .i64 f', .int .i64 g', .int .i64 h'] 47)) = V at p q lp lq B r8 r8l ⊢
  obtain ⟨a0, a1, a2, a3, a4, a5, a6, a7⟩ := r8
  have eH := fun (W : World) (h : Below V.heap.size V W) => (And.intro ((h.cell (p := ⟨w.heap.size + 1 + 1, 0, none⟩) r8l).trans a0) (And.intro ((h.cell (p := ⟨w.heap.size + 1 + 1, 1, none⟩) r8l).trans a1) (And.intro ((h.cell (p := ⟨w.heap.size + 1 + 1, 2, none⟩) r8l).trans a2) (And.intro ((h.cell (p := ⟨w.heap.size + 1 + 1, 3, none⟩) r8l).trans a3) (And.intro ((h.cell (p := ⟨w.heap.size + 1 + 1, 4, none⟩) r8l).trans a4) (And.intro ((h.cell (p := ⟨w.heap.size + 1 + 1, 5, none⟩) r8l).trans a5) (And.intro ((h.cell (p := ⟨w.heap.size + 1 + 1, 6, none⟩) r8l).trans a6) ((h.cell (p := ⟨w.heap.size + 1 + 1, 7, none⟩) r8l).trans a7))))))))
  go_upto_region 1 with fail
  go_cut [7, 8] (fun s7 s8 wx => ∃ B7 B8 : Nat, s7 = .pointer (some ⟨B7, 0, none⟩) ∧ s8 = .pointer (some ⟨B8, 0, none⟩) ∧ Box wx B7 ⟨e, f, g, h⟩ ∧ Box wx B8 ⟨e', f', g', h'⟩ ∧ Below V.heap.size V wx)
  case first =>
    go_region_held3 (fun w' => w'.cell? ⟨w.heap.size + 1 + 1, 0, none⟩ = some (.int .i64 e) ∧ w'.cell? ⟨w.heap.size + 1 + 1, 1, none⟩ = some (.int .i64 f) ∧ w'.cell? ⟨w.heap.size + 1 + 1, 2, none⟩ = some (.int .i64 g) ∧ w'.cell? ⟨w.heap.size + 1 + 1, 3, none⟩ = some (.int .i64 h) ∧ w'.cell? ⟨w.heap.size + 1 + 1, 4, none⟩ = some (.int .i64 e') ∧ w'.cell? ⟨w.heap.size + 1 + 1, 5, none⟩ = some (.int .i64 f') ∧ w'.cell? ⟨w.heap.size + 1 + 1, 6, none⟩ = some (.int .i64 g') ∧ w'.cell? ⟨w.heap.size + 1 + 1, 7, none⟩ = some (.int .i64 h'))
      (first | (with_reducible assumption) | with_reducible exact eH _ (by repeat (first | exact Below.refl _ _ | assumption | refine Below.drew ?_ | refine below_alloc ?_ _)) | fail)
      (fail)
    all_goals
      go_wp2_with fail
      go_meet
      first
      | with_reducible exact ⟨_, _, rfl, rfl, ((Box.freshAt V V.heap.size rfl e f g h 23).allocC _).drew, (Box.freshAt (V.alloc _) (V.heap.size + 1) (by simp) e' f' g' h' 23).drew, (below_alloc (below_alloc (Below.refl _ V) _) _).drew⟩
      | with_reducible exact ⟨_, _, rfl, rfl, (Box.freshAt (V.alloc _) (V.heap.size + 1) (by simp) e f g h 23).drew, ((Box.freshAt V V.heap.size rfl e' f' g' h' 23).allocC _).drew, (below_alloc (below_alloc (Below.refl _ V) _) _).drew⟩
  case rest =>
    obtain ⟨B7, B8, rfl, rfl, u, v, bb⟩ := hcut
    clear eH a0 a1 a2 a3 a4 a5 a6 a7 r8l
    replace p := p.below bb
    replace q := q.below bb
    replace lp := lp.call bb
    replace lq := lq.call bb
    replace B := below_call B bb
    clear bb
    obtain ⟨p0, p1, p2, p3, p4⟩ := p.open
    go_wp2_with fail
    clear p0 p1 p2 p3 p4
    refine (vs_r _ _ _ _ _ _ _ _).mono ?_
    rintro e w1 ⟨rfl, hb⟩
    replace p := p.below hb
    replace q := q.below hb
    replace lp := lp.call hb
    replace lq := lq.call hb
    replace u := u.below hb
    replace v := v.below hb
    replace B := below_call B hb
    clear hb
    by_cases hvp : vsB a b c d l.length = true
    · obtain ⟨q0, q1, q2, q3, q4⟩ := q.open
      go_wp2_with fail
      clear q0 q1 q2 q3 q4
      refine (vs_r _ _ _ _ _ _ _ _).mono ?_
      rintro e w2 ⟨rfl, hb⟩
      replace p := p.below hb
      replace q := q.below hb
      replace lp := lp.call hb
      replace lq := lq.call hb
      replace u := u.below hb
      replace v := v.below hb
      replace B := below_call B hb
      clear hb
      by_cases hvq : vsB a' b' c' d' k.length = true
      · obtain ⟨L, hc1, hc2⟩ := parts1 a b c d a' b' c' d' s t m m' l k (vs_pv hvp) (vs_pv hvq) hm' hn
        have hp2 := parts2 a b c d e f g h e' f' g' h' s m l (vs_pv hvp) hm hn
        have hl1 := pv_le (vs_pv hvp)
        have hk1 := pv_le (vs_pv hvq)
        obtain ⟨p0, p1, p2, p3, p4⟩ := p.open
        go_wp2_with fail
        clear p0 p1 p2 p3 p4
        refine (whole_c a b c d s m l (vs_pv hvp) hm _ lp).mono ?_
        rintro e w3 ⟨s1, m1, rfl, l1, hb, _⟩
        replace p := p.below hb
        replace q := q.below hb
        replace lp := lp.call hb
        replace lq := lq.call hb
        replace u := u.below hb
        replace v := v.below hb
        replace B := below_call B hb
        clear hb
        replace p := p.alloc (.cells #[.int .i64 a, .int .i64 b, .int .i64 c, .int .i64 d, .slice s1 l.length m1] 26)
        replace q := q.alloc (.cells #[.int .i64 a, .int .i64 b, .int .i64 c, .int .i64 d, .slice s1 l.length m1] 26)
        replace lp := lp.alloc (.cells #[.int .i64 a, .int .i64 b, .int .i64 c, .int .i64 d, .slice s1 l.length m1] 26)
        replace lq := lq.alloc (.cells #[.int .i64 a, .int .i64 b, .int .i64 c, .int .i64 d, .slice s1 l.length m1] 26)
        replace u := u.allocC (.cells #[.int .i64 a, .int .i64 b, .int .i64 c, .int .i64 d, .slice s1 l.length m1] 26)
        replace v := v.allocC (.cells #[.int .i64 a, .int .i64 b, .int .i64 c, .int .i64 d, .slice s1 l.length m1] 26)
        replace l1 := l1.alloc (.cells #[.int .i64 a, .int .i64 b, .int .i64 c, .int .i64 d, .slice s1 l.length m1] 26)
        replace B := below_alloc B (.cells #[.int .i64 a, .int .i64 b, .int .i64 c, .int .i64 d, .slice s1 l.length m1] 26)
        have x := QBox.fresh w3 a b c d s1 l.length m1 26
        obtain ⟨x0, x1, x2, x3, x4⟩ := x.open
        obtain ⟨p0, p1, p2, p3, p4⟩ := p.open
        go_wp2_with fail
        clear x0 x1 x2 x3 x4 p0 p1 p2 p3 p4
        refine (ps_rt2 a b c d l l.length rfl hl1 _ _ _ _ _ l1 lp).mono ?_
        rintro e w4 ⟨rfl, hb⟩
        replace p := p.below hb
        replace q := q.below hb
        replace lp := lp.call hb
        replace lq := lq.call hb
        replace u := u.below hb
        replace v := v.below hb
        replace l1 := l1.call hb
        replace x := x.below hb
        replace B := below_call B hb
        clear hb
        clear x l1
        obtain ⟨p0, p1, p2, p3, p4⟩ := p.open
        obtain ⟨q0, q1, q2, q3, q4⟩ := q.open
        go_wp2_with fail
        clear p0 p1 p2 p3 p4 q0 q1 q2 q3 q4
        refine (hc1 _ lp lq).mono ?_
        rintro e w5 ⟨s2, m2, rfl, l2, hb, hm2⟩
        replace p := p.below hb
        replace q := q.below hb
        replace lp := lp.call hb
        replace lq := lq.call hb
        replace u := u.below hb
        replace v := v.below hb
        replace B := below_call B hb
        clear hb
        replace p := p.alloc (.cells #[.int .i64 a, .int .i64 b, .int .i64 c, .int .i64 d, .slice s2 L.length m2] 26)
        replace q := q.alloc (.cells #[.int .i64 a, .int .i64 b, .int .i64 c, .int .i64 d, .slice s2 L.length m2] 26)
        replace lp := lp.alloc (.cells #[.int .i64 a, .int .i64 b, .int .i64 c, .int .i64 d, .slice s2 L.length m2] 26)
        replace lq := lq.alloc (.cells #[.int .i64 a, .int .i64 b, .int .i64 c, .int .i64 d, .slice s2 L.length m2] 26)
        replace u := u.allocC (.cells #[.int .i64 a, .int .i64 b, .int .i64 c, .int .i64 d, .slice s2 L.length m2] 26)
        replace v := v.allocC (.cells #[.int .i64 a, .int .i64 b, .int .i64 c, .int .i64 d, .slice s2 L.length m2] 26)
        replace l2 := l2.alloc (.cells #[.int .i64 a, .int .i64 b, .int .i64 c, .int .i64 d, .slice s2 L.length m2] 26)
        replace B := below_alloc B (.cells #[.int .i64 a, .int .i64 b, .int .i64 c, .int .i64 d, .slice s2 L.length m2] 26)
        have y := QBox.fresh w5 a b c d s2 L.length m2 26
        obtain ⟨y0, y1, y2, y3, y4⟩ := y.open
        obtain ⟨p0, p1, p2, p3, p4⟩ := p.open
        obtain ⟨q0, q1, q2, q3, q4⟩ := q.open
        go_wp2_with fail
        clear y0 y1 y2 y3 y4 p0 p1 p2 p3 p4 q0 q1 q2 q3 q4
        refine (cont_r _ _ _ _ _ _ _ _ _).mono ?_
        rintro e w6 ⟨rfl, hb⟩
        replace p := p.below hb
        replace q := q.below hb
        replace lp := lp.call hb
        replace lq := lq.call hb
        replace u := u.below hb
        replace v := v.below hb
        replace l2 := l2.call hb
        replace y := y.below hb
        replace B := below_call B hb
        clear hb
        by_cases hcc : Pl.contB a b c d a' b' c' d' = true
        · obtain ⟨y0, y1, y2, y3, y4⟩ := y.open
          obtain ⟨q0, q1, q2, q3, q4⟩ := q.open
          go_wp2_with fail
          clear y0 y1 y2 y3 y4 q0 q1 q2 q3 q4
          refine (hc2 hcc _ _ _ hm2 l2).mono ?_
          rintro e w7 ⟨s3, m3, rfl, l3, hb, _⟩
          replace p := p.below hb
          replace q := q.below hb
          replace lp := lp.call hb
          replace lq := lq.call hb
          replace u := u.below hb
          replace v := v.below hb
          replace l2 := l2.call hb
          replace y := y.below hb
          replace B := below_call B hb
          clear hb
          replace p := p.alloc (.cells #[.int .i64 a', .int .i64 b', .int .i64 c', .int .i64 d', .slice s3 k.length m3] 26)
          replace q := q.alloc (.cells #[.int .i64 a', .int .i64 b', .int .i64 c', .int .i64 d', .slice s3 k.length m3] 26)
          replace lp := lp.alloc (.cells #[.int .i64 a', .int .i64 b', .int .i64 c', .int .i64 d', .slice s3 k.length m3] 26)
          replace lq := lq.alloc (.cells #[.int .i64 a', .int .i64 b', .int .i64 c', .int .i64 d', .slice s3 k.length m3] 26)
          replace u := u.allocC (.cells #[.int .i64 a', .int .i64 b', .int .i64 c', .int .i64 d', .slice s3 k.length m3] 26)
          replace v := v.allocC (.cells #[.int .i64 a', .int .i64 b', .int .i64 c', .int .i64 d', .slice s3 k.length m3] 26)
          replace l2 := l2.alloc (.cells #[.int .i64 a', .int .i64 b', .int .i64 c', .int .i64 d', .slice s3 k.length m3] 26)
          replace y := y.alloc (.cells #[.int .i64 a', .int .i64 b', .int .i64 c', .int .i64 d', .slice s3 k.length m3] 26)
          replace l3 := l3.alloc (.cells #[.int .i64 a', .int .i64 b', .int .i64 c', .int .i64 d', .slice s3 k.length m3] 26)
          replace B := below_alloc B (.cells #[.int .i64 a', .int .i64 b', .int .i64 c', .int .i64 d', .slice s3 k.length m3] 26)
          have z := QBox.fresh w7 a' b' c' d' s3 k.length m3 26
          obtain ⟨z0, z1, z2, z3, z4⟩ := z.open
          obtain ⟨q0, q1, q2, q3, q4⟩ := q.open
          go_wp2_with fail
          clear z0 z1 z2 z3 z4 q0 q1 q2 q3 q4
          refine (ps_rt2 a' b' c' d' k k.length rfl hk1 _ _ _ _ _ l3 lq).mono ?_
          rintro e w8 ⟨rfl, hb⟩
          replace p := p.below hb
          replace q := q.below hb
          replace lp := lp.call hb
          replace lq := lq.call hb
          replace u := u.below hb
          replace v := v.below hb
          replace l2 := l2.call hb
          replace y := y.below hb
          replace l3 := l3.call hb
          replace z := z.below hb
          replace B := below_call B hb
          clear hb
          clear z l3 q lq
          clear y l2
          rcases hp2 with h1 | ⟨L2, h1, h2, h3⟩
          · obtain ⟨p0, p1, p2, p3, p4⟩ := p.open
            obtain ⟨u0, u1, u2, u3⟩ := u.open
            go_wp2_with fail
            clear p0 p1 p2 p3 p4 u0 u1 u2 u3
            refine (h1 _ lp).mono ?_
            rintro e w9 ⟨s4, m4, rfl, _, hb, _⟩
            replace p := p.below hb
            replace lp := lp.call hb
            replace u := u.below hb
            replace v := v.below hb
            replace B := below_call B hb
            clear hb
            replace p := p.alloc (.cells #[.int .i64 0, .int .i64 0, .int .i64 0, .int .i64 0, .slice s4 0 m4] 26)
            replace lp := lp.alloc (.cells #[.int .i64 0, .int .i64 0, .int .i64 0, .int .i64 0, .slice s4 0 m4] 26)
            replace u := u.allocC (.cells #[.int .i64 0, .int .i64 0, .int .i64 0, .int .i64 0, .slice s4 0 m4] 26)
            replace v := v.allocC (.cells #[.int .i64 0, .int .i64 0, .int .i64 0, .int .i64 0, .slice s4 0 m4] 26)
            replace B := below_alloc B (.cells #[.int .i64 0, .int .i64 0, .int .i64 0, .int .i64 0, .slice s4 0 m4] 26)
            go_wp2_with fail
            refine (example02_c _).mono ?_
            rintro e w10 ⟨rfl, hb⟩
            replace p := p.below hb
            replace lp := lp.call hb
            replace u := u.below hb
            replace v := v.below hb
            replace B := below_call B hb
            clear hb
            go_wp2
            go_ret
            exact ⟨rfl, B⟩
          · obtain ⟨p0, p1, p2, p3, p4⟩ := p.open
            obtain ⟨u0, u1, u2, u3⟩ := u.open
            go_wp2_with fail
            clear p0 p1 p2 p3 p4 u0 u1 u2 u3
            refine (h1 _ lp).mono ?_
            rintro e w9 ⟨s4, m4, rfl, l4, hb, hm4⟩
            replace p := p.below hb
            replace lp := lp.call hb
            replace u := u.below hb
            replace v := v.below hb
            replace B := below_call B hb
            clear hb
            replace p := p.alloc (.cells #[.int .i64 e, .int .i64 f, .int .i64 g, .int .i64 h, .slice s4 L2.length m4] 26)
            replace lp := lp.alloc (.cells #[.int .i64 e, .int .i64 f, .int .i64 g, .int .i64 h, .slice s4 L2.length m4] 26)
            replace u := u.allocC (.cells #[.int .i64 e, .int .i64 f, .int .i64 g, .int .i64 h, .slice s4 L2.length m4] 26)
            replace v := v.allocC (.cells #[.int .i64 e, .int .i64 f, .int .i64 g, .int .i64 h, .slice s4 L2.length m4] 26)
            replace l4 := l4.alloc (.cells #[.int .i64 e, .int .i64 f, .int .i64 g, .int .i64 h, .slice s4 L2.length m4] 26)
            replace B := below_alloc B (.cells #[.int .i64 e, .int .i64 f, .int .i64 g, .int .i64 h, .slice s4 L2.length m4] 26)
            have pa := QBox.fresh w9 e f g h s4 L2.length m4 26
            clear u
            obtain ⟨p0, p1, p2, p3, p4⟩ := p.open
            obtain ⟨pa0, pa1, pa2, pa3, pa4⟩ := pa.open
            go_wp2_with fail
            clear p0 p1 p2 p3 p4 pa0 pa1 pa2 pa3 pa4
            refine (h2 _ _ _ hm4 lp l4).mono ?_
            rintro e w10 ⟨s5, m5, rfl, l5, hb, _⟩
            replace p := p.below hb
            replace lp := lp.call hb
            replace v := v.below hb
            replace l4 := l4.call hb
            replace pa := pa.below hb
            replace B := below_call B hb
            clear hb
            replace p := p.alloc (.cells #[.int .i64 a, .int .i64 b, .int .i64 c, .int .i64 d, .slice s5 l.length m5] 26)
            replace lp := lp.alloc (.cells #[.int .i64 a, .int .i64 b, .int .i64 c, .int .i64 d, .slice s5 l.length m5] 26)
            replace v := v.allocC (.cells #[.int .i64 a, .int .i64 b, .int .i64 c, .int .i64 d, .slice s5 l.length m5] 26)
            replace l4 := l4.alloc (.cells #[.int .i64 a, .int .i64 b, .int .i64 c, .int .i64 d, .slice s5 l.length m5] 26)
            replace pa := pa.alloc (.cells #[.int .i64 a, .int .i64 b, .int .i64 c, .int .i64 d, .slice s5 l.length m5] 26)
            replace l5 := l5.alloc (.cells #[.int .i64 a, .int .i64 b, .int .i64 c, .int .i64 d, .slice s5 l.length m5] 26)
            replace B := below_alloc B (.cells #[.int .i64 a, .int .i64 b, .int .i64 c, .int .i64 d, .slice s5 l.length m5] 26)
            have pb := QBox.fresh w10 a b c d s5 l.length m5 26
            obtain ⟨pa0, pa1, pa2, pa3, pa4⟩ := pa.open
            obtain ⟨v0, v1, v2, v3⟩ := v.open
            go_wp2_with fail
            clear pa0 pa1 pa2 pa3 pa4 v0 v1 v2 v3
            rcases h3 with h3 | ⟨M, hM, h3, h4⟩
            · refine (h3 _ _ _ hm4 l4).mono ?_
              rintro e w11 ⟨s6, m6, rfl, _, hb, _⟩
              replace p := p.below hb
              replace lp := lp.call hb
              replace v := v.below hb
              replace l4 := l4.call hb
              replace pa := pa.below hb
              replace l5 := l5.call hb
              replace pb := pb.below hb
              replace B := below_call B hb
              clear hb
              replace p := p.alloc (.cells #[.int .i64 0, .int .i64 0, .int .i64 0, .int .i64 0, .slice s6 0 m6] 26)
              replace lp := lp.alloc (.cells #[.int .i64 0, .int .i64 0, .int .i64 0, .int .i64 0, .slice s6 0 m6] 26)
              replace v := v.allocC (.cells #[.int .i64 0, .int .i64 0, .int .i64 0, .int .i64 0, .slice s6 0 m6] 26)
              replace l4 := l4.alloc (.cells #[.int .i64 0, .int .i64 0, .int .i64 0, .int .i64 0, .slice s6 0 m6] 26)
              replace pa := pa.alloc (.cells #[.int .i64 0, .int .i64 0, .int .i64 0, .int .i64 0, .slice s6 0 m6] 26)
              replace l5 := l5.alloc (.cells #[.int .i64 0, .int .i64 0, .int .i64 0, .int .i64 0, .slice s6 0 m6] 26)
              replace pb := pb.alloc (.cells #[.int .i64 0, .int .i64 0, .int .i64 0, .int .i64 0, .slice s6 0 m6] 26)
              replace B := below_alloc B (.cells #[.int .i64 0, .int .i64 0, .int .i64 0, .int .i64 0, .slice s6 0 m6] 26)
              clear pa l4 v
              obtain ⟨pb0, pb1, pb2, pb3, pb4⟩ := pb.open
              obtain ⟨p0, p1, p2, p3, p4⟩ := p.open
              go_wp2_with fail
              clear pb0 pb1 pb2 pb3 pb4 p0 p1 p2 p3 p4
              refine (ps_rt2 a b c d l l.length rfl hl1 _ _ _ _ _ l5 lp).mono ?_
              rintro e w12 ⟨rfl, hb⟩
              replace p := p.below hb
              replace lp := lp.call hb
              replace l5 := l5.call hb
              replace pb := pb.below hb
              replace B := below_call B hb
              clear hb
              clear pb l5
              go_wp2_with fail
              refine (example02_c _).mono ?_
              rintro e w13 ⟨rfl, hb⟩
              replace p := p.below hb
              replace lp := lp.call hb
              replace B := below_call B hb
              clear hb
              go_wp2
              go_ret
              exact ⟨rfl, B⟩
            · refine (h3 _ _ _ hm4 l4).mono ?_
              rintro e w11 ⟨s6, m6, rfl, l6, hb, _⟩
              replace p := p.below hb
              replace lp := lp.call hb
              replace v := v.below hb
              replace l4 := l4.call hb
              replace pa := pa.below hb
              replace l5 := l5.call hb
              replace pb := pb.below hb
              replace B := below_call B hb
              clear hb
              replace p := p.alloc (.cells #[.int .i64 e', .int .i64 f', .int .i64 g', .int .i64 h', .slice s6 M.length m6] 26)
              replace lp := lp.alloc (.cells #[.int .i64 e', .int .i64 f', .int .i64 g', .int .i64 h', .slice s6 M.length m6] 26)
              replace v := v.allocC (.cells #[.int .i64 e', .int .i64 f', .int .i64 g', .int .i64 h', .slice s6 M.length m6] 26)
              replace l4 := l4.alloc (.cells #[.int .i64 e', .int .i64 f', .int .i64 g', .int .i64 h', .slice s6 M.length m6] 26)
              replace pa := pa.alloc (.cells #[.int .i64 e', .int .i64 f', .int .i64 g', .int .i64 h', .slice s6 M.length m6] 26)
              replace l5 := l5.alloc (.cells #[.int .i64 e', .int .i64 f', .int .i64 g', .int .i64 h', .slice s6 M.length m6] 26)
              replace pb := pb.alloc (.cells #[.int .i64 e', .int .i64 f', .int .i64 g', .int .i64 h', .slice s6 M.length m6] 26)
              replace l6 := l6.alloc (.cells #[.int .i64 e', .int .i64 f', .int .i64 g', .int .i64 h', .slice s6 M.length m6] 26)
              replace B := below_alloc B (.cells #[.int .i64 e', .int .i64 f', .int .i64 g', .int .i64 h', .slice s6 M.length m6] 26)
              have pc := QBox.fresh w11 e' f' g' h' s6 M.length m6 26
              clear pa l4
              obtain ⟨pb0, pb1, pb2, pb3, pb4⟩ := pb.open
              obtain ⟨p0, p1, p2, p3, p4⟩ := p.open
              go_wp2_with fail
              clear pb0 pb1 pb2 pb3 pb4 p0 p1 p2 p3 p4
              refine (ps_rt2 a b c d l l.length rfl hl1 _ _ _ _ _ l5 lp).mono ?_
              rintro e w12 ⟨rfl, hb⟩
              replace p := p.below hb
              replace lp := lp.call hb
              replace v := v.below hb
              replace l5 := l5.call hb
              replace pb := pb.below hb
              replace l6 := l6.call hb
              replace pc := pc.below hb
              replace B := below_call B hb
              clear hb
              clear pb l5
              obtain ⟨p0, p1, p2, p3, p4⟩ := p.open
              obtain ⟨v0, v1, v2, v3⟩ := v.open
              go_wp2_with fail
              clear p0 p1 p2 p3 p4 v0 v1 v2 v3
              refine (h4 _ lp).mono ?_
              rintro e w13 ⟨s7, m7, rfl, l7, hb, _⟩
              replace p := p.below hb
              replace lp := lp.call hb
              replace v := v.below hb
              replace l6 := l6.call hb
              replace pc := pc.below hb
              replace B := below_call B hb
              clear hb
              replace p := p.alloc (.cells #[.int .i64 e', .int .i64 f', .int .i64 g', .int .i64 h', .slice s7 M.length m7] 26)
              replace lp := lp.alloc (.cells #[.int .i64 e', .int .i64 f', .int .i64 g', .int .i64 h', .slice s7 M.length m7] 26)
              replace v := v.allocC (.cells #[.int .i64 e', .int .i64 f', .int .i64 g', .int .i64 h', .slice s7 M.length m7] 26)
              replace l6 := l6.alloc (.cells #[.int .i64 e', .int .i64 f', .int .i64 g', .int .i64 h', .slice s7 M.length m7] 26)
              replace pc := pc.alloc (.cells #[.int .i64 e', .int .i64 f', .int .i64 g', .int .i64 h', .slice s7 M.length m7] 26)
              replace l7 := l7.alloc (.cells #[.int .i64 e', .int .i64 f', .int .i64 g', .int .i64 h', .slice s7 M.length m7] 26)
              replace B := below_alloc B (.cells #[.int .i64 e', .int .i64 f', .int .i64 g', .int .i64 h', .slice s7 M.length m7] 26)
              have pd := QBox.fresh w13 e' f' g' h' s7 M.length m7 26
              clear v p lp
              obtain ⟨pc0, pc1, pc2, pc3, pc4⟩ := pc.open
              obtain ⟨pd0, pd1, pd2, pd3, pd4⟩ := pd.open
              go_wp2_with fail
              clear pc0 pc1 pc2 pc3 pc4 pd0 pd1 pd2 pd3 pd4
              refine (ps_rt2 e' f' g' h' M M.length rfl hM _ _ _ _ _ l6 l7).mono ?_
              rintro e w14 ⟨rfl, hb⟩
              replace l6 := l6.call hb
              replace pc := pc.below hb
              replace l7 := l7.call hb
              replace pd := pd.below hb
              replace B := below_call B hb
              clear hb
              go_wp2_with fail
              refine (example02_c _).mono ?_
              rintro e w15 ⟨rfl, hb⟩
              replace l6 := l6.call hb
              replace pc := pc.below hb
              replace l7 := l7.call hb
              replace pd := pd.below hb
              replace B := below_call B hb
              clear hb
              go_wp2
              go_ret
              exact ⟨rfl, B⟩
        · have hcc' : Pl.contB a b c d a' b' c' d' = false := by simpa using hcc
          clear q lq
          clear y l2
          rcases hp2 with h1 | ⟨L2, h1, h2, h3⟩
          · obtain ⟨p0, p1, p2, p3, p4⟩ := p.open
            obtain ⟨u0, u1, u2, u3⟩ := u.open
            go_wp2_with fail
            clear p0 p1 p2 p3 p4 u0 u1 u2 u3
            refine (h1 _ lp).mono ?_
            rintro e w7 ⟨s4, m4, rfl, _, hb, _⟩
            replace p := p.below hb
            replace lp := lp.call hb
            replace u := u.below hb
            replace v := v.below hb
            replace B := below_call B hb
            clear hb
            replace p := p.alloc (.cells #[.int .i64 0, .int .i64 0, .int .i64 0, .int .i64 0, .slice s4 0 m4] 26)
            replace lp := lp.alloc (.cells #[.int .i64 0, .int .i64 0, .int .i64 0, .int .i64 0, .slice s4 0 m4] 26)
            replace u := u.allocC (.cells #[.int .i64 0, .int .i64 0, .int .i64 0, .int .i64 0, .slice s4 0 m4] 26)
            replace v := v.allocC (.cells #[.int .i64 0, .int .i64 0, .int .i64 0, .int .i64 0, .slice s4 0 m4] 26)
            replace B := below_alloc B (.cells #[.int .i64 0, .int .i64 0, .int .i64 0, .int .i64 0, .slice s4 0 m4] 26)
            go_wp2_with fail
            refine (example02_c _).mono ?_
            rintro e w8 ⟨rfl, hb⟩
            replace p := p.below hb
            replace lp := lp.call hb
            replace u := u.below hb
            replace v := v.below hb
            replace B := below_call B hb
            clear hb
            go_wp2
            go_ret
            exact ⟨rfl, B⟩
          · obtain ⟨p0, p1, p2, p3, p4⟩ := p.open
            obtain ⟨u0, u1, u2, u3⟩ := u.open
            go_wp2_with fail
            clear p0 p1 p2 p3 p4 u0 u1 u2 u3
            refine (h1 _ lp).mono ?_
            rintro e w7 ⟨s4, m4, rfl, l4, hb, hm4⟩
            replace p := p.below hb
            replace lp := lp.call hb
            replace u := u.below hb
            replace v := v.below hb
            replace B := below_call B hb
            clear hb
            replace p := p.alloc (.cells #[.int .i64 e, .int .i64 f, .int .i64 g, .int .i64 h, .slice s4 L2.length m4] 26)
            replace lp := lp.alloc (.cells #[.int .i64 e, .int .i64 f, .int .i64 g, .int .i64 h, .slice s4 L2.length m4] 26)
            replace u := u.allocC (.cells #[.int .i64 e, .int .i64 f, .int .i64 g, .int .i64 h, .slice s4 L2.length m4] 26)
            replace v := v.allocC (.cells #[.int .i64 e, .int .i64 f, .int .i64 g, .int .i64 h, .slice s4 L2.length m4] 26)
            replace l4 := l4.alloc (.cells #[.int .i64 e, .int .i64 f, .int .i64 g, .int .i64 h, .slice s4 L2.length m4] 26)
            replace B := below_alloc B (.cells #[.int .i64 e, .int .i64 f, .int .i64 g, .int .i64 h, .slice s4 L2.length m4] 26)
            have pa := QBox.fresh w7 e f g h s4 L2.length m4 26
            clear u
            obtain ⟨p0, p1, p2, p3, p4⟩ := p.open
            obtain ⟨pa0, pa1, pa2, pa3, pa4⟩ := pa.open
            go_wp2_with fail
            clear p0 p1 p2 p3 p4 pa0 pa1 pa2 pa3 pa4
            refine (h2 _ _ _ hm4 lp l4).mono ?_
            rintro e w8 ⟨s5, m5, rfl, l5, hb, _⟩
            replace p := p.below hb
            replace lp := lp.call hb
            replace v := v.below hb
            replace l4 := l4.call hb
            replace pa := pa.below hb
            replace B := below_call B hb
            clear hb
            replace p := p.alloc (.cells #[.int .i64 a, .int .i64 b, .int .i64 c, .int .i64 d, .slice s5 l.length m5] 26)
            replace lp := lp.alloc (.cells #[.int .i64 a, .int .i64 b, .int .i64 c, .int .i64 d, .slice s5 l.length m5] 26)
            replace v := v.allocC (.cells #[.int .i64 a, .int .i64 b, .int .i64 c, .int .i64 d, .slice s5 l.length m5] 26)
            replace l4 := l4.alloc (.cells #[.int .i64 a, .int .i64 b, .int .i64 c, .int .i64 d, .slice s5 l.length m5] 26)
            replace pa := pa.alloc (.cells #[.int .i64 a, .int .i64 b, .int .i64 c, .int .i64 d, .slice s5 l.length m5] 26)
            replace l5 := l5.alloc (.cells #[.int .i64 a, .int .i64 b, .int .i64 c, .int .i64 d, .slice s5 l.length m5] 26)
            replace B := below_alloc B (.cells #[.int .i64 a, .int .i64 b, .int .i64 c, .int .i64 d, .slice s5 l.length m5] 26)
            have pb := QBox.fresh w8 a b c d s5 l.length m5 26
            obtain ⟨pa0, pa1, pa2, pa3, pa4⟩ := pa.open
            obtain ⟨v0, v1, v2, v3⟩ := v.open
            go_wp2_with fail
            clear pa0 pa1 pa2 pa3 pa4 v0 v1 v2 v3
            rcases h3 with h3 | ⟨M, hM, h3, h4⟩
            · refine (h3 _ _ _ hm4 l4).mono ?_
              rintro e w9 ⟨s6, m6, rfl, _, hb, _⟩
              replace p := p.below hb
              replace lp := lp.call hb
              replace v := v.below hb
              replace l4 := l4.call hb
              replace pa := pa.below hb
              replace l5 := l5.call hb
              replace pb := pb.below hb
              replace B := below_call B hb
              clear hb
              replace p := p.alloc (.cells #[.int .i64 0, .int .i64 0, .int .i64 0, .int .i64 0, .slice s6 0 m6] 26)
              replace lp := lp.alloc (.cells #[.int .i64 0, .int .i64 0, .int .i64 0, .int .i64 0, .slice s6 0 m6] 26)
              replace v := v.allocC (.cells #[.int .i64 0, .int .i64 0, .int .i64 0, .int .i64 0, .slice s6 0 m6] 26)
              replace l4 := l4.alloc (.cells #[.int .i64 0, .int .i64 0, .int .i64 0, .int .i64 0, .slice s6 0 m6] 26)
              replace pa := pa.alloc (.cells #[.int .i64 0, .int .i64 0, .int .i64 0, .int .i64 0, .slice s6 0 m6] 26)
              replace l5 := l5.alloc (.cells #[.int .i64 0, .int .i64 0, .int .i64 0, .int .i64 0, .slice s6 0 m6] 26)
              replace pb := pb.alloc (.cells #[.int .i64 0, .int .i64 0, .int .i64 0, .int .i64 0, .slice s6 0 m6] 26)
              replace B := below_alloc B (.cells #[.int .i64 0, .int .i64 0, .int .i64 0, .int .i64 0, .slice s6 0 m6] 26)
              clear pa l4 v
              obtain ⟨pb0, pb1, pb2, pb3, pb4⟩ := pb.open
              obtain ⟨p0, p1, p2, p3, p4⟩ := p.open
              go_wp2_with fail
              clear pb0 pb1 pb2 pb3 pb4 p0 p1 p2 p3 p4
              refine (ps_rt2 a b c d l l.length rfl hl1 _ _ _ _ _ l5 lp).mono ?_
              rintro e w10 ⟨rfl, hb⟩
              replace p := p.below hb
              replace lp := lp.call hb
              replace l5 := l5.call hb
              replace pb := pb.below hb
              replace B := below_call B hb
              clear hb
              clear pb l5
              go_wp2_with fail
              refine (example02_c _).mono ?_
              rintro e w11 ⟨rfl, hb⟩
              replace p := p.below hb
              replace lp := lp.call hb
              replace B := below_call B hb
              clear hb
              go_wp2
              go_ret
              exact ⟨rfl, B⟩
            · refine (h3 _ _ _ hm4 l4).mono ?_
              rintro e w9 ⟨s6, m6, rfl, l6, hb, _⟩
              replace p := p.below hb
              replace lp := lp.call hb
              replace v := v.below hb
              replace l4 := l4.call hb
              replace pa := pa.below hb
              replace l5 := l5.call hb
              replace pb := pb.below hb
              replace B := below_call B hb
              clear hb
              replace p := p.alloc (.cells #[.int .i64 e', .int .i64 f', .int .i64 g', .int .i64 h', .slice s6 M.length m6] 26)
              replace lp := lp.alloc (.cells #[.int .i64 e', .int .i64 f', .int .i64 g', .int .i64 h', .slice s6 M.length m6] 26)
              replace v := v.allocC (.cells #[.int .i64 e', .int .i64 f', .int .i64 g', .int .i64 h', .slice s6 M.length m6] 26)
              replace l4 := l4.alloc (.cells #[.int .i64 e', .int .i64 f', .int .i64 g', .int .i64 h', .slice s6 M.length m6] 26)
              replace pa := pa.alloc (.cells #[.int .i64 e', .int .i64 f', .int .i64 g', .int .i64 h', .slice s6 M.length m6] 26)
              replace l5 := l5.alloc (.cells #[.int .i64 e', .int .i64 f', .int .i64 g', .int .i64 h', .slice s6 M.length m6] 26)
              replace pb := pb.alloc (.cells #[.int .i64 e', .int .i64 f', .int .i64 g', .int .i64 h', .slice s6 M.length m6] 26)
              replace l6 := l6.alloc (.cells #[.int .i64 e', .int .i64 f', .int .i64 g', .int .i64 h', .slice s6 M.length m6] 26)
              replace B := below_alloc B (.cells #[.int .i64 e', .int .i64 f', .int .i64 g', .int .i64 h', .slice s6 M.length m6] 26)
              have pc := QBox.fresh w9 e' f' g' h' s6 M.length m6 26
              clear pa l4
              obtain ⟨pb0, pb1, pb2, pb3, pb4⟩ := pb.open
              obtain ⟨p0, p1, p2, p3, p4⟩ := p.open
              go_wp2_with fail
              clear pb0 pb1 pb2 pb3 pb4 p0 p1 p2 p3 p4
              refine (ps_rt2 a b c d l l.length rfl hl1 _ _ _ _ _ l5 lp).mono ?_
              rintro e w10 ⟨rfl, hb⟩
              replace p := p.below hb
              replace lp := lp.call hb
              replace v := v.below hb
              replace l5 := l5.call hb
              replace pb := pb.below hb
              replace l6 := l6.call hb
              replace pc := pc.below hb
              replace B := below_call B hb
              clear hb
              clear pb l5
              obtain ⟨p0, p1, p2, p3, p4⟩ := p.open
              obtain ⟨v0, v1, v2, v3⟩ := v.open
              go_wp2_with fail
              clear p0 p1 p2 p3 p4 v0 v1 v2 v3
              refine (h4 _ lp).mono ?_
              rintro e w11 ⟨s7, m7, rfl, l7, hb, _⟩
              replace p := p.below hb
              replace lp := lp.call hb
              replace v := v.below hb
              replace l6 := l6.call hb
              replace pc := pc.below hb
              replace B := below_call B hb
              clear hb
              replace p := p.alloc (.cells #[.int .i64 e', .int .i64 f', .int .i64 g', .int .i64 h', .slice s7 M.length m7] 26)
              replace lp := lp.alloc (.cells #[.int .i64 e', .int .i64 f', .int .i64 g', .int .i64 h', .slice s7 M.length m7] 26)
              replace v := v.allocC (.cells #[.int .i64 e', .int .i64 f', .int .i64 g', .int .i64 h', .slice s7 M.length m7] 26)
              replace l6 := l6.alloc (.cells #[.int .i64 e', .int .i64 f', .int .i64 g', .int .i64 h', .slice s7 M.length m7] 26)
              replace pc := pc.alloc (.cells #[.int .i64 e', .int .i64 f', .int .i64 g', .int .i64 h', .slice s7 M.length m7] 26)
              replace l7 := l7.alloc (.cells #[.int .i64 e', .int .i64 f', .int .i64 g', .int .i64 h', .slice s7 M.length m7] 26)
              replace B := below_alloc B (.cells #[.int .i64 e', .int .i64 f', .int .i64 g', .int .i64 h', .slice s7 M.length m7] 26)
              have pd := QBox.fresh w11 e' f' g' h' s7 M.length m7 26
              clear v p lp
              obtain ⟨pc0, pc1, pc2, pc3, pc4⟩ := pc.open
              obtain ⟨pd0, pd1, pd2, pd3, pd4⟩ := pd.open
              go_wp2_with fail
              clear pc0 pc1 pc2 pc3 pc4 pd0 pd1 pd2 pd3 pd4
              refine (ps_rt2 e' f' g' h' M M.length rfl hM _ _ _ _ _ l6 l7).mono ?_
              rintro e w12 ⟨rfl, hb⟩
              replace l6 := l6.call hb
              replace pc := pc.below hb
              replace l7 := l7.call hb
              replace pd := pd.below hb
              replace B := below_call B hb
              clear hb
              go_wp2_with fail
              refine (example02_c _).mono ?_
              rintro e w13 ⟨rfl, hb⟩
              replace l6 := l6.call hb
              replace pc := pc.below hb
              replace l7 := l7.call hb
              replace pd := pd.below hb
              replace B := below_call B hb
              clear hb
              go_wp2
              go_ret
              exact ⟨rfl, B⟩
      · have hvq' : vsB a' b' c' d' k.length = false := by simpa using hvq
        go_wp2_with fail
        refine (example02_c _).mono ?_
        rintro e w3 ⟨rfl, hb⟩
        replace p := p.below hb
        replace q := q.below hb
        replace lp := lp.call hb
        replace lq := lq.call hb
        replace u := u.below hb
        replace v := v.below hb
        replace B := below_call B hb
        clear hb
        go_wp2
        go_ret
        exact ⟨rfl, B⟩
    · have hvp' : vsB a b c d l.length = false := by simpa using hvp
      go_wp2_with fail
      refine (example02_c _).mono ?_
      rintro e w2 ⟨rfl, hb⟩
      replace p := p.below hb
      replace q := q.below hb
      replace lp := lp.call hb
      replace lq := lq.call hb
      replace u := u.below hb
      replace v := v.below hb
      replace B := below_call B hb
      clear hb
      go_wp2
      go_ret
      exact ⟨rfl, B⟩

set_option maxRecDepth 100000 in
theorem lifted (os : Os) (started : os.Started) (H : Type) (enc : TypeId × Value → H) :
    ReturnsInHanded {} Try.checked os 9 .any (Rows.planePartsSpec.pre6 enc Try.prog Try.f9 Rows.planePartsRow.domain false) (Rows.planePartsSpec.post enc Try.prog Try.f9 false true false false) := by
  refine returnsInHanded_of_change (C := Try.checked) own started (by kernel_rfl) Try.func9
    (ChangeSpec.witness6 (enc := enc) (C := Try.checked) false ⟨#[], #[.agg #[.int .i64 0, .int .i64 0, .int .i64 0, .int .i64 0, .slice none 0 0], .agg #[.int .i64 0, .int .i64 0, .int .i64 0, .int .i64 0, .slice none 0 0], .agg #[.int .i64 0, .int .i64 0, .int .i64 0, .int .i64 0, .int .i64 0, .int .i64 0, .int .i64 0, .int .i64 0]], []⟩ 8 (by kernel_rfl) (by kernel_rfl) (by kernel_rfl) (by kernel_rfl)) ?_
  intro W base args ds gs before hval0 hW _ _
  have hval : ∀ (j : Nat) t v, Try.f9.params[j]? = some t → args[j]? = some v → Value.okWide Try.prog W .any base t v := hval0
  have hW' := hW
  obtain ⟨p, q, hA0, hV, rfl, _, _⟩ := hW
  have hA : DataW.TrodAll enc Try.prog W 0 (fun _ => true) true Try.f9.params.toList args.toList ds p := hA0
  rw [Try.params9] at hA hval
  obtain ⟨v0, vs0, d0, ds0, p0, q0, hargs, rfl, rfl, h0, r0⟩ := trodAll_cons hA
  obtain ⟨v1, vs1, d1, ds1, p1, q1, rfl, rfl, rfl, h1, r1⟩ := trodAll_cons r0
  obtain ⟨v2, vs2, d2, ds2, p2, q2, rfl, rfl, rfl, h2, r2⟩ := trodAll_cons r1
  obtain ⟨rfl, rfl, rfl⟩ := trodAll_nil r2
  obtain rfl : args = #[v0, v1, v2] := by cases args; simp_all
  obtain ⟨rfl, rfl⟩ := trodVars_none hV
  clear hA0 hval0
  simp only [List.append_nil] at hW'
  have l0 : ∀ x ∈ p0, x.block < W.heap.size := fun x hx => hW'.lt x (by simp [hx])
  have l1 : ∀ x ∈ p1, x.block < W.heap.size := fun x hx => hW'.lt x (by simp [hx])
  have l2 : ∀ x ∈ p2, x.block < W.heap.size := fun x hx => hW'.lt x (by simp [hx])
  obtain ⟨a, b, c, d, s, l, m, rfl, hH0, hm0, hx0, hn0⟩ := open_plane (hval 0 26 v0 rfl rfl) h0
  obtain ⟨a', b', c', d', t, k, m', rfl, hH1, hm1, hx1, hn1⟩ := open_plane (hval 1 26 v1 rfl rfl) h1
  obtain ⟨e, f, g, h, e', f', g', h', rfl⟩ := open_rects2 (hval 2 47 v2 rfl rfl) h2
  refine (walk a b c d a' b' c' d' e f g h e' f' g' h' s t l k m m' hm0 hm1 hn0 W hH0 hH1).mono fun e W' ⟨he, hb⟩ => ?_
  subst he
  exact ⟨_, rfl, post_low (pa := p0 ++ (p1 ++ (p2 ++ ([])))) (pv := []) hW' (fun _ _ _ => (trodAll_cons_mk (shut_bool Try.underlying4 _) trodAll_mk0)) (fun sp hsp => (trodAll_cons_mk (trod_low laidOut (by kernel_rfl) (of_decide_eq_true (by kernel_rfl)) h0 hb l0 (fun x hx => hsp x (by simp [hx]))) (trodAll_cons_mk (trod_low laidOut (by kernel_rfl) (of_decide_eq_true (by kernel_rfl)) h1 hb l1 (fun x hx => hsp x (by simp [hx]))) (trodAll_cons_mk (trod_low laidOut (by kernel_rfl) (of_decide_eq_true (by kernel_rfl)) h2 hb l2 (fun x hx => hsp x (by simp [hx]))) trodAll_mk0)))) (fun _ _ => rfl) (by simp) hb (ok_one (by kernel_rfl) rfl (okWide_bool_mk Try.underlying4 _))⟩

theorem over : Rows.planePartsRow.holds Try.pinned (OpenSpec.ofChange Rows.planePartsSpec) :=
  OpenClaim.holds_of_wide 9 Try.f9 rfl rfl rfl rfl rfl rfl rfl ⟨rfl, rfl, rfl, rfl, rfl⟩ rfl rfl rfl rfl rfl (by kernel_rfl) Try.func9 (by kernel_rfl)
    (of_decide_eq_true (by kernel_rfl)) (by unfold Func.isWrapper; first | (rw [if_pos (by decide +kernel)]; kernel_rfl) | (rw [if_neg (by decide +kernel)]; exact ⟨rfl, rfl⟩))
    (fun os started H enc _ => lifted os started H enc)

theorem proved : Rows.PlanePartsSaid :=
  over
#print axioms proved
end Go.Proofs.Ytamkipdalegioaa.planeParts
