/-
  Layer 15: the reference's Run.
-/
import Derived.Test.YtbhjapgioaiocaaDoorXh
import Derived.Test.YtbhjapgioaiocaaDoorEk
import Derived.Test.YtbhjapgioaiocaaDoorFc
set_option maxRecDepth 100000
namespace Go.Proofs.YtbhjapgioaiocaaDoor
open Go.RowKit

theorem rsize_c {W : World} {B A C w h : Nat} {q : St} (H : Rb W B A C w h q) : Calls Tryd.prog 57 #[.pointer (some ⟨A, 0, none⟩)] W fun e w' => e = .returned (.tuple #[.int .i64 (w : Int), .int .i64 (h : Int)]) ∧ Below W.heap.size W w' := by
  have i := rmade_y H
  obtain ⟨c0, c1, -⟩ := H.cells
  clear H
  go_enter Tryd.func57, Tryd.ntmps57
  go_wp2_with (first | (go_at_call 93; (with_reducible refine i.mono ?_); rintro e wn ⟨rfl, rfl⟩))
  go_quiet (fail)
  go_wp2_with fail
  go_ret2
  exact ⟨rfl, drewN_below _ _⟩
set_option maxHeartbeats 2000000 in
theorem xrun_err {W : World} {B A C w h : Nat} {q : St} (H : Rb W B A C w h q) (pass planes o : Int) (m : Mo) (c : Int) (hc : runE pass planes o = c) (hc0 : c ≠ 0) : Calls Tryd.prog 19 #[.pointer (some ⟨A, 0, none⟩), .int .i64 pass, .int .i64 planes, .int .i64 o, m.val] W fun e w' => e = .returned (.tuple #[.slice none 0 0, .int .i64 c]) ∧ Below W.heap.size W w' := by
  have hf := H.fit
  have hw : (((w : Int)) == 0) = false := by unfold fits at hf; simp; omega
  have kk := fun W => xvalid_c o W
  obtain ⟨mb, mr, ms, mc, my⟩ := m
  unfold Mo.val at *
  have hM := below_alloc (Below.refl _ W) (.cells #[.bool mb, .bool mr, .bool ms, .bool mc, .bool my] 26)
  have ks := rsize_c (H.below hM)
  have HM := Lib.hid hM
  unfold runE at hc
  clear H hf hM
  have w3 : 1 ≤ planes → planes ≤ 60 → IntKind.i64.wrap (3 * planes) = 3 * planes ∧ IntKind.i64.wrap (3 * planes - 3) = 3 * planes - 3 := fun h1 h2 => by
    constructor <;> (rw [IntWalk.i64_left]; unfold wrap64; omega)
  have W3 := Lib.hid w3
  clear w3
  by_cases h1 : planes < 1
  · rw [if_pos (.inl h1)] at hc
    subst hc
    clear hc0
    go_enter Tryd.func19, Tryd.ntmps19
    go_wp2_with (first | (go_at_call 57; (with_reducible refine ks.mono ?_); rintro e wa ⟨rfl, hBa⟩; have HB := Lib.hid (below_call HM.out hBa); have MB := Lib.hid ((Blk.new W 26 #[.bool mb, .bool mr, .bool ms, .bool mc, .bool my]).below hBa); clear hBa))
    go_ret2
    exact ⟨rfl, HB.out⟩
  by_cases h2 : 60 < planes
  · rw [if_pos (.inr (.inl h2))] at hc
    subst hc
    clear hc0
    go_enter Tryd.func19, Tryd.ntmps19
    go_wp2_with (first | (go_at_call 57; (with_reducible refine ks.mono ?_); rintro e wa ⟨rfl, hBa⟩; have HB := Lib.hid (below_call HM.out hBa); have MB := Lib.hid ((Blk.new W 26 #[.bool mb, .bool mr, .bool ms, .bool mc, .bool my]).below hBa); clear hBa))
    go_ret2
    exact ⟨rfl, HB.out⟩
  obtain ⟨e1, e2⟩ := W3.out (by omega) (by omega)
  by_cases h3 : pass < 0
  · rw [if_pos (.inr (.inr (.inl h3)))] at hc
    subst hc
    clear hc0
    go_enter Tryd.func19, Tryd.ntmps19
    go_wp2_with (first | (go_at_call 57; (with_reducible refine ks.mono ?_); rintro e wa ⟨rfl, hBa⟩; have HB := Lib.hid (below_call HM.out hBa); have MB := Lib.hid ((Blk.new W 26 #[.bool mb, .bool mr, .bool ms, .bool mc, .bool my]).below hBa); clear hBa))
    go_ret2
    exact ⟨rfl, HB.out⟩
  by_cases h4 : 3 * planes - 3 < pass
  · rw [if_pos (.inr (.inr (.inr h4)))] at hc
    subst hc
    clear hc0
    go_enter Tryd.func19, Tryd.ntmps19
    go_wp2_with (first | (go_at_call 57; (with_reducible refine ks.mono ?_); rintro e wa ⟨rfl, hBa⟩; have HB := Lib.hid (below_call HM.out hBa); have MB := Lib.hid ((Blk.new W 26 #[.bool mb, .bool mr, .bool ms, .bool mc, .bool my]).below hBa); clear hBa))
    go_ret2
    exact ⟨rfl, HB.out⟩
  rw [if_neg (by omega)] at hc
  by_cases h5 : 0 ≤ o ∧ o ≤ 3
  · rw [if_neg (by omega)] at hc
    exact absurd hc.symm hc0
  · rw [if_pos (by omega)] at hc
    subst hc
    clear hc0
    rw [decide_eq_false h5] at kk
    go_enter Tryd.func19, Tryd.ntmps19
    go_wp2_with (first | (go_at_call 57; (with_reducible refine ks.mono ?_); rintro e wa ⟨rfl, hBa⟩; have HB := Lib.hid (below_call HM.out hBa); have MB := Lib.hid ((Blk.new W 26 #[.bool mb, .bool mr, .bool ms, .bool mc, .bool my]).below hBa); clear hBa) | (go_at_call 27; (with_reducible refine (kk _).mono ?_); rintro e wn ⟨rfl, rfl⟩))
    go_ret2
    exact ⟨rfl, HB.out⟩
theorem xc_begin {W wb : World} {B A C w h : Nat} {q : St} (H : Rb W B A C w h q) (hok : ∀ x y, okV (q.v x y)) (hb : Below W.heap.size W wb) (s : Nat) (hs : s ≤ 59) (o : Int) (mb mr ms mc my r : Bool) :
    Xc W (wb.alloc (.cells #[.pointer (some ⟨A, 0, none⟩), .int .i64 (s : Int), .int .i64 o, .bool mb, .bool mr, .bool ms, .bool mc, .bool my, .bool r, .slice none 0 0] 91)) ⟨B, A, C, wb.heap.size⟩ ⟨w, h, s, o, mc, r⟩ ⟨mb, mr, ms, mc, my⟩ (q, []) := by
  have ba := below_call hb (below_alloc (Below.refl _ wb) (.cells #[.pointer (some ⟨A, 0, none⟩), .int .i64 (s : Int), .int .i64 o, .bool mb, .bool mr, .bool ms, .bool mc, .bool my, .bool r, .slice none 0 0] 91))
  exact ⟨H.below ba, ⟨_, Blk.new wb 91 (xpV A ⟨w, h, s, o, mc, r⟩ ⟨mb, mr, ms, mc, my⟩ (.slice none 0 0)), World.ownsRow_nil _ _ _ _⟩, hok, hs, rfl, H.obj.lt, H.ltC, hb.size, Kb.of_below _ ba⟩
theorem xc_end {W W' : World} {a : Adx} {p : Pp} {m : Mo} {e : Es} (H : Xc W W' a p m e) : ∃ v, W'.cell? ⟨a.P, 9, none⟩ = some v ∧ Rb W' a.B a.A a.C p.w p.h e.1 ∧ Kb [a.C] W W' ∧ W'.ownsRow W.heap.size 52 2 v e.2.length (cellsP e.2) := by
  obtain ⟨v, h1, h2⟩ := H.px
  exact ⟨v, h1.cell 9, H.rb, H.kb, h2⟩
set_option maxHeartbeats 8000000 in
theorem xrun_ok {W : World} {B A C w h : Nat} {q : St} (H : Rb W B A C w h q) (hok : ∀ x y, okV (q.v x y)) (pass planes o : Int) (m : Mo) (hc : runE pass planes o = 0) :
    Calls Tryd.prog 19 #[.pointer (some ⟨A, 0, none⟩), .int .i64 pass, .int .i64 planes, .int .i64 o, m.val] W fun E W' => ∃ v, E = .returned (.tuple #[v, .int .i64 0]) ∧ Rb W' B A C w h (runQ w h pass planes o m q).1 ∧ Kb [C] W W' ∧ W'.ownsRow W.heap.size 52 2 v (runQ w h pass planes o m q).2.length (cellsP (runQ w h pass planes o m q).2) := by
  have hr : 1 ≤ planes ∧ planes ≤ 60 ∧ 0 ≤ pass ∧ pass ≤ 3 * planes - 3 ∧ 0 ≤ o ∧ o ≤ 3 := by
    unfold runE at hc
    split at hc
    · cases hc
    · split at hc
      · cases hc
      · omega
  have hf := H.fit
  have hw : (((w : Int)) == 0) = false := by unfold fits at hf; simp; omega
  have kk := fun W => xvalid_c o W
  rw [decide_eq_true (show 0 ≤ o ∧ o ≤ 3 by omega)] at kk
  have kp := fun W => passR_c pass (by omega) W
  have kr := fun W => rawR_c pass m (by omega) W
  have kc := fun W => scanR_yes w h hf W
  have hpl : 0 ≤ plnP pass ∧ plnP pass ≤ planes - 1 := by unfold plnP; split; omega; split <;> omega
  have hkn := knd_in pass hr.2.2.1
  obtain ⟨mb, mr, ms, mc, my⟩ := m
  unfold Mo.val at *
  obtain ⟨sN, hsN⟩ : ∃ s, s = (planes - 1 - plnP pass).toNat := ⟨_, rfl⟩
  have hs59 : sN ≤ 59 := by omega
  have wp1 : IntKind.i64.wrap (planes - 1) = planes - 1 := by rw [IntWalk.i64_left]; unfold wrap64; omega
  have wp2 : IntKind.i64.wrap (planes - 1 - plnP pass) = (sN : Int) := by rw [IntWalk.i64_left]; unfold wrap64; omega
  have w31 : IntKind.i64.wrap (3 * planes) = 3 * planes := by rw [IntWalk.i64_left]; unfold wrap64; omega
  have w32 : IntKind.i64.wrap (3 * planes - 3) = 3 * planes - 3 := by rw [IntWalk.i64_left]; unfold wrap64; omega
  have eP : ppR w h pass planes o ⟨mb, mr, ms, mc, my⟩ = ⟨w, h, sN, o, mc, rawM pass mb⟩ := by unfold ppR; rw [hsN]
  have eQ : runQ w h pass planes o ⟨mb, mr, ms, mc, my⟩ q = passS ⟨w, h, sN, o, mc, rawM pass mb⟩ (kndP pass) my (q, []) := by unfold runQ; rw [eP]
  rw [eQ]
  have g1 : ¬ planes < 1 := by omega
  have g2 : ¬ 60 < planes := by omega
  have g3 : ¬ pass < 0 := by omega
  have g4 : ¬ 3 * planes - 3 < pass := by omega
  have HH := Lib.hid H
  have HOK := Lib.hid hok
  have HS := Lib.hid hs59
  have hM := below_alloc (Below.refl _ W) (.cells #[.bool mb, .bool mr, .bool ms, .bool mc, .bool my] 26)
  have ks := rsize_c (H.below hM)
  have HM := Lib.hid hM
  clear hM H hok hs59 hr hpl hsN eP eQ hc hf
  generalize rawM pass mb = rw0 at *
  generalize kndP pass = kd at *
  generalize plnP pass = pl at *
  rcases hkn with rfl | rfl | rfl
  · have kS := fun {W1 : World} {a : Adx} (E : Xc W W1 a ⟨w, h, sN, o, mc, rw0⟩ ⟨mb, mr, ms, mc, my⟩ (q, [])) (s1 : Option Addr) (c1 : Nat) (hP : HoldsP W1 s1 (scan w h)) => xsigp_c E (by simp) s1 c1 hP
    have e0 : passS ⟨w, h, sN, o, mc, rw0⟩ 0 my (q, []) = (scan w h).foldl (sigS ⟨w, h, sN, o, mc, rw0⟩) (q, []) := by unfold passS; rw [if_pos rfl]
    rw [e0]
    clear e0
    try dsimp only at kS
    generalize (scan w h).foldl (sigS ⟨w, h, sN, o, mc, rw0⟩) (q, []) = e1 at *
    generalize scan w h = L at *
    go_enter Tryd.func19, Tryd.ntmps19
    go_wp2_with (first | (go_at_call 57; (with_reducible refine ks.mono ?_); rintro e wa ⟨rfl, hBa⟩; have HB := Lib.hid (below_call HM.out hBa); have MB := Lib.hid ((Blk.new W 26 #[.bool mb, .bool mr, .bool ms, .bool mc, .bool my]).below hBa); clear hBa) | (go_at_call 27; (with_reducible refine (kk _).mono ?_); rintro e wn ⟨rfl, rfl⟩) | (go_at_call 29; (with_reducible refine (kp _).mono ?_); rintro e wn ⟨rfl, rfl⟩))
    have DB := Lib.hid (below_call HB.out (Below.refl _ _).drew)
    have MD := Lib.hid (MB.out.below (Below.refl _ _).drew)
    obtain ⟨m0, m1, m2, m3, m4⟩ := md MD.out
    go_region_held3 (fun w' => w'.cell? ⟨W.heap.size, 0, none⟩ = some (.bool mb) ∧ w'.cell? ⟨W.heap.size, 1, none⟩ = some (.bool mr) ∧ w'.cell? ⟨W.heap.size, 2, none⟩ = some (.bool ms) ∧ w'.cell? ⟨W.heap.size, 3, none⟩ = some (.bool mc) ∧ w'.cell? ⟨W.heap.size, 4, none⟩ = some (.bool my))
      (first | (with_reducible exact ⟨m0, m1, m2, m3, m4⟩) | (with_reducible exact ⟨n0, n1, n2, n3, n4⟩) | (exact ⟨cell_alloc n0 _, cell_alloc n1 _, cell_alloc n2 _, cell_alloc n3 _, cell_alloc n4 _⟩) | fail)
      (first | (go_simp; go_at_call 28; (with_reducible refine (kr _).mono ?_); rintro e wb ⟨rfl, hBb⟩; have WB := Lib.hid (below_call DB.out hBb); have MC := Lib.hid (MD.out.below hBb); obtain ⟨n0, n1, n2, n3, n4⟩ := md MC.out; have E0 := Lib.hid (xc_begin HH.out HOK.out WB.out sN HS.out o mb mr ms mc my rw0); clear hBb) | fail)
    all_goals
      generalize wb.alloc (.cells #[.pointer (some ⟨A, 0, none⟩), .int .i64 (sN : Int), .int .i64 o, .bool mb, .bool mr, .bool ms, .bool mc, .bool my, .bool rw0, .slice none 0 0] 91) = W1 at *
      generalize wb.heap.size = g at *
      go_wp2_with (first | (go_at_call 58; (with_reducible refine (kc _).mono ?_); rintro e w1 ⟨s1, c1, rfl, hP, hB⟩; have kE := kS (E0.out.below hB) s1 c1 hP; clear hP hB) | (go_at_call 59; (with_reducible refine kE.mono ?_); rintro e wz ⟨rfl, H2, K2⟩; obtain ⟨v, vL, v1, v2, v3⟩ := xc_end H2; dsimp only at vL v1 v2 v3; have V1 := Lib.hid v1; have V2 := Lib.hid v2; have V3 := Lib.hid v3; clear v1 v2 v3 H2 K2))
      go_ret2
      exact ⟨v, rfl, V1.out, V2.out, V3.out⟩
  · have kS := fun {W1 : World} {a : Adx} (E : Xc W W1 a ⟨w, h, sN, o, mc, rw0⟩ ⟨mb, mr, ms, mc, my⟩ (q, [])) (s1 : Option Addr) (c1 : Nat) (hP : HoldsP W1 s1 (scan w h)) => xrefp_c E (by simp) s1 c1 hP
    have e0 : passS ⟨w, h, sN, o, mc, rw0⟩ 1 my (q, []) = (scan w h).foldl (refS ⟨w, h, sN, o, mc, rw0⟩) (q, []) := by unfold passS; rw [if_neg (by decide), if_pos rfl]
    rw [e0]
    clear e0
    try dsimp only at kS
    generalize (scan w h).foldl (refS ⟨w, h, sN, o, mc, rw0⟩) (q, []) = e1 at *
    generalize scan w h = L at *
    go_enter Tryd.func19, Tryd.ntmps19
    go_wp2_with (first | (go_at_call 57; (with_reducible refine ks.mono ?_); rintro e wa ⟨rfl, hBa⟩; have HB := Lib.hid (below_call HM.out hBa); have MB := Lib.hid ((Blk.new W 26 #[.bool mb, .bool mr, .bool ms, .bool mc, .bool my]).below hBa); clear hBa) | (go_at_call 27; (with_reducible refine (kk _).mono ?_); rintro e wn ⟨rfl, rfl⟩) | (go_at_call 29; (with_reducible refine (kp _).mono ?_); rintro e wn ⟨rfl, rfl⟩))
    have DB := Lib.hid (below_call HB.out (Below.refl _ _).drew)
    have MD := Lib.hid (MB.out.below (Below.refl _ _).drew)
    obtain ⟨m0, m1, m2, m3, m4⟩ := md MD.out
    go_region_held3 (fun w' => w'.cell? ⟨W.heap.size, 0, none⟩ = some (.bool mb) ∧ w'.cell? ⟨W.heap.size, 1, none⟩ = some (.bool mr) ∧ w'.cell? ⟨W.heap.size, 2, none⟩ = some (.bool ms) ∧ w'.cell? ⟨W.heap.size, 3, none⟩ = some (.bool mc) ∧ w'.cell? ⟨W.heap.size, 4, none⟩ = some (.bool my))
      (first | (with_reducible exact ⟨m0, m1, m2, m3, m4⟩) | (with_reducible exact ⟨n0, n1, n2, n3, n4⟩) | (exact ⟨cell_alloc n0 _, cell_alloc n1 _, cell_alloc n2 _, cell_alloc n3 _, cell_alloc n4 _⟩) | fail)
      (first | (go_simp; go_at_call 28; (with_reducible refine (kr _).mono ?_); rintro e wb ⟨rfl, hBb⟩; have WB := Lib.hid (below_call DB.out hBb); have MC := Lib.hid (MD.out.below hBb); obtain ⟨n0, n1, n2, n3, n4⟩ := md MC.out; have E0 := Lib.hid (xc_begin HH.out HOK.out WB.out sN HS.out o mb mr ms mc my rw0); clear hBb) | fail)
    all_goals
      generalize wb.alloc (.cells #[.pointer (some ⟨A, 0, none⟩), .int .i64 (sN : Int), .int .i64 o, .bool mb, .bool mr, .bool ms, .bool mc, .bool my, .bool rw0, .slice none 0 0] 91) = W1 at *
      generalize wb.heap.size = g at *
      go_wp2_with (first | (go_at_call 58; (with_reducible refine (kc _).mono ?_); rintro e w1 ⟨s1, c1, rfl, hP, hB⟩; have kE := kS (E0.out.below hB) s1 c1 hP; clear hP hB) | (go_at_call 60; (with_reducible refine kE.mono ?_); rintro e wz ⟨rfl, H2, K2⟩; obtain ⟨v, vL, v1, v2, v3⟩ := xc_end H2; dsimp only at vL v1 v2 v3; have V1 := Lib.hid v1; have V2 := Lib.hid v2; have V3 := Lib.hid v3; clear v1 v2 v3 H2 K2))
      go_ret2
      exact ⟨v, rfl, V1.out, V2.out, V3.out⟩
  · have kS := fun {W1 : World} {a : Adx} (E : Xc W W1 a ⟨w, h, sN, o, mc, rw0⟩ ⟨mb, mr, ms, mc, my⟩ (q, [])) (s1 : Option Addr) (c1 : Nat) (hP : HoldsP W1 s1 (scan w h)) => xcleanp_c E (by simp) s1 c1 hP
    have e0 : passS ⟨w, h, sN, o, mc, rw0⟩ 2 my (q, []) = cleanS ⟨w, h, sN, o, mc, rw0⟩ my (q, []) := by unfold passS; rw [if_neg (by decide), if_neg (by decide)]
    rw [e0]
    clear e0
    try dsimp only at kS
    generalize cleanS ⟨w, h, sN, o, mc, rw0⟩ my (q, []) = e1 at *
    generalize scan w h = L at *
    go_enter Tryd.func19, Tryd.ntmps19
    go_wp2_with (first | (go_at_call 57; (with_reducible refine ks.mono ?_); rintro e wa ⟨rfl, hBa⟩; have HB := Lib.hid (below_call HM.out hBa); have MB := Lib.hid ((Blk.new W 26 #[.bool mb, .bool mr, .bool ms, .bool mc, .bool my]).below hBa); clear hBa) | (go_at_call 27; (with_reducible refine (kk _).mono ?_); rintro e wn ⟨rfl, rfl⟩) | (go_at_call 29; (with_reducible refine (kp _).mono ?_); rintro e wn ⟨rfl, rfl⟩))
    have DB := Lib.hid (below_call HB.out (Below.refl _ _).drew)
    have MD := Lib.hid (MB.out.below (Below.refl _ _).drew)
    obtain ⟨m0, m1, m2, m3, m4⟩ := md MD.out
    go_region_held3 (fun w' => w'.cell? ⟨W.heap.size, 0, none⟩ = some (.bool mb) ∧ w'.cell? ⟨W.heap.size, 1, none⟩ = some (.bool mr) ∧ w'.cell? ⟨W.heap.size, 2, none⟩ = some (.bool ms) ∧ w'.cell? ⟨W.heap.size, 3, none⟩ = some (.bool mc) ∧ w'.cell? ⟨W.heap.size, 4, none⟩ = some (.bool my))
      (first | (with_reducible exact ⟨m0, m1, m2, m3, m4⟩) | (with_reducible exact ⟨n0, n1, n2, n3, n4⟩) | (exact ⟨cell_alloc n0 _, cell_alloc n1 _, cell_alloc n2 _, cell_alloc n3 _, cell_alloc n4 _⟩) | fail)
      (first | (go_simp; go_at_call 28; (with_reducible refine (kr _).mono ?_); rintro e wb ⟨rfl, hBb⟩; have WB := Lib.hid (below_call DB.out hBb); have MC := Lib.hid (MD.out.below hBb); obtain ⟨n0, n1, n2, n3, n4⟩ := md MC.out; have E0 := Lib.hid (xc_begin HH.out HOK.out WB.out sN HS.out o mb mr ms mc my rw0); clear hBb) | fail)
    all_goals
      generalize wb.alloc (.cells #[.pointer (some ⟨A, 0, none⟩), .int .i64 (sN : Int), .int .i64 o, .bool mb, .bool mr, .bool ms, .bool mc, .bool my, .bool rw0, .slice none 0 0] 91) = W1 at *
      generalize wb.heap.size = g at *
      go_wp2_with (first | (go_at_call 58; (with_reducible refine (kc _).mono ?_); rintro e w1 ⟨s1, c1, rfl, hP, hB⟩; have kE := kS (E0.out.below hB) s1 c1 hP; clear hP hB) | (go_at_call 61; (with_reducible refine kE.mono ?_); rintro e wz ⟨rfl, H2, K2⟩; obtain ⟨v, vL, v1, v2, v3⟩ := xc_end H2; dsimp only at vL v1 v2 v3; have V1 := Lib.hid v1; have V2 := Lib.hid v2; have V3 := Lib.hid v3; clear v1 v2 v3 H2 K2))
      go_ret2
      exact ⟨v, rfl, V1.out, V2.out, V3.out⟩
end Go.Proofs.YtbhjapgioaiocaaDoor
