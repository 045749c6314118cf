/-
  Layer 15: the arguments' check; Run.
-/
import Derived.Test.YtbhjapgioaiocaaDoorEj
import Derived.Laws.EntriesVeiled
set_option maxRecDepth 100000
namespace Go.Proofs.YtbhjapgioaiocaaDoor
open Go.RowKit

/-- The error of a pass's arguments, for a block. -/
def runE (pass planes o : Int) : Int := if planes < 1 ∨ 60 < planes ∨ pass < 0 ∨ 3 * planes - 3 < pass then 2 else if o < 0 ∨ 3 < o then 3 else 0
theorem known_c (o : Int) (W : World) : Calls Tryd.prog 70 #[.int .i64 o] W fun e w' => e = .returned (.bool (decide (0 ≤ o ∧ o ≤ 3))) ∧ W = w' := by
  by_cases h1 : 0 ≤ o
  · by_cases h2 : o ≤ 3
    · rw [decide_eq_true (show 0 ≤ o ∧ o ≤ 3 from ⟨h1, h2⟩)]
      go_enter Tryd.func70, Tryd.ntmps70
      go_wp2_with fail
      go_ret
      exact ⟨rfl, rfl⟩
    · rw [decide_eq_false (show ¬ (0 ≤ o ∧ o ≤ 3) by omega)]
      go_enter Tryd.func70, Tryd.ntmps70
      go_wp2_with fail
      go_ret
      exact ⟨by first | rfl | simpa using h2, rfl⟩
  · rw [decide_eq_false (show ¬ (0 ≤ o ∧ o ≤ 3) by omega)]
    go_enter Tryd.func70, Tryd.ntmps70
    go_wp2_with fail
    go_ret
    exact ⟨rfl, rfl⟩
theorem check_c {W : World} {B A V S T R w h : Nat} {q : St} (H : Cb W B A V S T R w h q) (pass planes o : Int) : Calls Tryd.prog 50 #[.pointer (some ⟨A, 0, none⟩), .int .i64 pass, .int .i64 planes, .int .i64 o] W fun e w' => e = .returned (.int .i64 (runE pass planes o)) ∧ Below W.heap.size W w' := by
  have ks := size_c H
  have hf := H.fit
  have hw : (((w : Int)) == 0) = false := by unfold fits at hf; simp; omega
  have kk := fun W => known_c o W
  unfold runE
  clear H hf
  have w3 : 1 ≤ planes → planes ≤ 60 → IntKind.i64.wrap (3 * planes) = 3 * planes ∧ IntKind.i64.wrap (3 * planes - 3) = 3 * planes - 3 := fun h1 h2 => by
    constructor <;> (rw [IntWalk.i64_left]; unfold wrap64; omega)
  have W3 := Lib.hid w3
  clear w3
  by_cases h1 : planes < 1
  · rw [if_pos (.inl h1)]
    go_enter Tryd.func50, Tryd.ntmps50
    go_wp2_with (first | (go_at_call 77; (with_reducible refine ks.mono ?_); rintro e wa ⟨rfl, hBa⟩))
    go_ret
    exact ⟨rfl, hBa⟩
  by_cases h2 : 60 < planes
  · rw [if_pos (.inr (.inl h2))]
    go_enter Tryd.func50, Tryd.ntmps50
    go_wp2_with (first | (go_at_call 77; (with_reducible refine ks.mono ?_); rintro e wa ⟨rfl, hBa⟩))
    go_ret
    exact ⟨rfl, hBa⟩
  obtain ⟨e1, e2⟩ := W3.out (by omega) (by omega)
  by_cases h3 : pass < 0
  · rw [if_pos (.inr (.inr (.inl h3)))]
    go_enter Tryd.func50, Tryd.ntmps50
    go_wp2_with (first | (go_at_call 77; (with_reducible refine ks.mono ?_); rintro e wa ⟨rfl, hBa⟩))
    go_ret
    exact ⟨rfl, hBa⟩
  by_cases h4 : 3 * planes - 3 < pass
  · rw [if_pos (.inr (.inr (.inr h4)))]
    go_enter Tryd.func50, Tryd.ntmps50
    go_wp2_with (first | (go_at_call 77; (with_reducible refine ks.mono ?_); rintro e wa ⟨rfl, hBa⟩))
    go_ret
    exact ⟨rfl, hBa⟩
  rw [if_neg (by omega)]
  by_cases h5 : 0 ≤ o ∧ o ≤ 3
  · rw [if_neg (by omega)]
    rw [decide_eq_true h5] at kk
    go_enter Tryd.func50, Tryd.ntmps50
    go_wp2_with (first | (go_at_call 77; (with_reducible refine ks.mono ?_); rintro e wa ⟨rfl, hBa⟩) | (go_at_call 70; (with_reducible refine (kk _).mono ?_); rintro e wn ⟨rfl, rfl⟩))
    go_ret
    exact ⟨rfl, hBa⟩
  · rw [if_pos (by omega)]
    rw [decide_eq_false h5] at kk
    go_enter Tryd.func50, Tryd.ntmps50
    go_wp2_with (first | (go_at_call 77; (with_reducible refine ks.mono ?_); rintro e wa ⟨rfl, hBa⟩) | (go_at_call 70; (with_reducible refine (kk _).mono ?_); rintro e wn ⟨rfl, rfl⟩))
    go_ret
    exact ⟨rfl, hBa⟩
/-- What a pass is performed with. -/
def ppR (w h : Nat) (pass planes o : Int) (m : Mo) : Pp := ⟨w, h, (planes - 1 - plnP pass).toNat, o, m.c, rawM pass m.b⟩
def runQ (w h : Nat) (pass planes o : Int) (m : Mo) (q : St) : Es := passS (ppR w h pass planes o m) (kndP pass) m.y (q, [])
theorem md {w : World} {g : Nat} {a b c d y : Bool} (h : Blk w g 26 #[.bool a, .bool b, .bool c, .bool d, .bool y]) : w.cell? ⟨g, 0, none⟩ = some (.bool a) ∧ w.cell? ⟨g, 1, none⟩ = some (.bool b) ∧ w.cell? ⟨g, 2, none⟩ = some (.bool c) ∧ w.cell? ⟨g, 3, none⟩ = some (.bool d) ∧ w.cell? ⟨g, 4, none⟩ = some (.bool y) := ⟨h.cell 0, h.cell 1, h.cell 2, h.cell 3, h.cell 4⟩
theorem cb_old {W : World} {B A V S T R w h : Nat} {q : St} (H : Cb W B A V S T R w h q) (k : Nat) (hk : k ∈ [A, V, S, T, R]) : k < W.heap.size := by
  simp at hk
  rcases hk with rfl | rfl | rfl | rfl | rfl
  · exact H.obj.lt
  · exact H.gv.lt
  · exact H.gs.lt
  · exact H.gt.lt
  · exact H.gr.lt
theorem alloc_size (w : World) (o : Obj) : (w.alloc o).heap.size = w.heap.size + 1 := by simp
theorem ec_begin {W wb : World} {B A V S T R w h : Nat} {q : St} (H : Cb W B A V S T R w h q) (hT : Cx.Tabs W) (hok : ∀ x y, okV (q.v x y)) (hB : 3 ≤ B) (hb : Below W.heap.size W wb) (s : Nat) (hs : s ≤ 59) (o : Int) (c r : Bool) :
    Ec W (((wb.alloc (.cells #[.bool r] 4)).alloc (.cells #[.slice none 0 0] 35)).alloc (.cells #[.pointer (some ⟨A, 0, none⟩), .int .i64 (s : Int), .int .i64 o, .bool c, .bool r, .func (.func 53) #[] #[.pointer (some ⟨wb.heap.size, 0, none⟩), .pointer (some ⟨wb.heap.size + 1, 0, none⟩)]] 86)) ⟨B, A, V, S, T, R, wb.heap.size + 2, wb.heap.size, wb.heap.size + 1⟩ ⟨w, h, s, o, c, r⟩ (q, []) := by
  have b1 := below_alloc (Below.refl _ wb) (.cells #[.bool r] 4)
  have b2 := below_alloc (Below.refl _ (wb.alloc (.cells #[.bool r] 4))) (.cells #[.slice none 0 0] 35)
  have b3 := below_alloc (Below.refl _ ((wb.alloc (.cells #[.bool r] 4)).alloc (.cells #[.slice none 0 0] 35))) (.cells #[.pointer (some ⟨A, 0, none⟩), .int .i64 (s : Int), .int .i64 o, .bool c, .bool r, .func (.func 53) #[] #[.pointer (some ⟨wb.heap.size, 0, none⟩), .pointer (some ⟨wb.heap.size + 1, 0, none⟩)]] 86)
  have hz := hb.size
  have ba := below_call (below_call (below_call hb b1) b2) b3
  have s1 : (wb.alloc (.cells #[.bool r] 4)).heap.size = wb.heap.size + 1 := alloc_size _ _
  have s2 : ((wb.alloc (.cells #[.bool r] 4)).alloc (.cells #[.slice none 0 0] 35)).heap.size = wb.heap.size + 2 := by rw [alloc_size, alloc_size]
  have k1 := ((Blk.new wb 4 #[.bool r]).below b2).below b3
  have k2 := (Blk.new (wb.alloc (.cells #[.bool r] 4)) 35 #[.slice none 0 0]).below b3
  have k3 := Blk.new ((wb.alloc (.cells #[.bool r] 4)).alloc (.cells #[.slice none 0 0] 35)) 86 #[.pointer (some ⟨A, 0, none⟩), .int .i64 (s : Int), .int .i64 o, .bool c, .bool r, .func (.func 53) #[] #[.pointer (some ⟨wb.heap.size, 0, none⟩), .pointer (some ⟨wb.heap.size + 1, 0, none⟩)]]
  rw [s1] at k2
  rw [s2] at k3
  exact ⟨H.below ba, hT.below ba, k3, k1, ⟨_, k2, World.ownsRow_nil _ _ _ _⟩, hok, hs, hB, cb_old H, by show W.heap.size ≤ wb.heap.size + 2; omega, hz, by show W.heap.size ≤ wb.heap.size + 1; omega, Kb.of_below _ ba⟩
/-- What Run gives of a coder's end. -/
theorem ec_end {W W' : World} {a : Adr} {p : Pp} {e : Es} (H : Ec W W' a p e) : ∃ v, W'.cell? ⟨a.L, 0, none⟩ = some v ∧ Cb W' a.B a.A a.V a.S a.T a.R p.w p.h e.1 ∧ Kb [a.V, a.S, a.T, a.R] W W' ∧ W'.ownsRow W.heap.size 52 2 v e.2.length (cellsP e.2) := by
  obtain ⟨v, h1, h2⟩ := H.sv
  exact ⟨v, h1.cell 0, H.cb, H.kb, h2⟩
set_option maxHeartbeats 4000000 in
theorem run_ok {W : World} {B A V S T R w h : Nat} {q : St} (H : Cb W B A V S T R w h q) (hT : Cx.Tabs W) (hok : ∀ x y, okV (q.v x y)) (hB : 3 ≤ B) (pass planes o : Int) (m : Mo) (hc : runE pass planes o = 0) :
    Calls Tryd.prog 18 #[.pointer (some ⟨A, 0, none⟩), .int .i64 pass, .int .i64 planes, .int .i64 o, m.val] W fun E W' => ∃ v, E = .returned (.tuple #[v, .int .i64 0]) ∧ Cb W' B A V S T R w h (runQ w h pass planes o m q).1 ∧ Kb [V, S, T, R] W W' ∧ W'.ownsRow W.heap.size 52 2 v (runQ w h pass planes o m q).2.length (cellsP (runQ w h pass planes o m q).2) := by
  have hr : 1 ≤ planes ∧ planes ≤ 60 ∧ 0 ≤ pass ∧ pass ≤ 3 * planes - 3 := by
    unfold runE at hc
    split at hc
    · cases hc
    · omega
  have kc := fun W' (hb : Below W.heap.size W W') => check_c (H.below hb) pass planes o
  rw [hc] at kc
  have kp := fun W => pass_c pass (by omega) W
  have kr := fun W => raw_c pass m (by omega) W
  have hpl : 0 ≤ plnP pass ∧ plnP pass ≤ planes - 1 := by unfold plnP; split; omega; split <;> omega
  have hkn := knd_in pass hr.2.2.1
  obtain ⟨mb, mr, ms, mc, my⟩ := m
  unfold Mo.val at *
  obtain ⟨sN, hsN⟩ : ∃ s, s = (planes - 1 - plnP pass).toNat := ⟨_, rfl⟩
  have hs59 : sN ≤ 59 := by omega
  have wp1 : IntKind.i64.wrap (planes - 1) = planes - 1 := by rw [IntWalk.i64_left]; unfold wrap64; omega
  have wp2 : IntKind.i64.wrap (planes - 1 - plnP pass) = (sN : Int) := by rw [IntWalk.i64_left]; unfold wrap64; omega
  have eP : ppR w h pass planes o ⟨mb, mr, ms, mc, my⟩ = ⟨w, h, sN, o, mc, rawM pass mb⟩ := by unfold ppR; rw [hsN]
  have eQ : runQ w h pass planes o ⟨mb, mr, ms, mc, my⟩ q = passS ⟨w, h, sN, o, mc, rawM pass mb⟩ (kndP pass) my (q, []) := by unfold runQ; rw [eP]
  rw [eQ]
  have HH := Lib.hid H
  have HT := Lib.hid hT
  have HOK := Lib.hid hok
  have HBB := Lib.hid hB
  have HS := Lib.hid hs59
  have hM := below_alloc (Below.refl _ W) (.cells #[.bool mb, .bool mr, .bool ms, .bool mc, .bool my] 26)
  have kc1 := kc _ hM
  have HM := Lib.hid hM
  clear kc hM H hT hok hB hs59 hr hpl hsN eP eQ hc
  generalize rawM pass mb = rw0 at *
  have eK : ∀ k : Int, kndP pass = k → passS ⟨w, h, sN, o, mc, rw0⟩ (kndP pass) my (q, []) = passS ⟨w, h, sN, o, mc, rw0⟩ k my (q, []) := fun k h => by rw [h]
  generalize kndP pass = kd at *
  generalize plnP pass = pl at *
  rcases hkn with rfl | rfl | rfl
  · have kS := fun {W1 : World} {a : Adr} (E : Ec W W1 a ⟨w, h, sN, o, mc, rw0⟩ (q, [])) => sigp_c E (by simp)
    have e0 : passS ⟨w, h, sN, o, mc, rw0⟩ 0 my (q, []) = (scan w h).foldl (sigS ⟨w, h, sN, o, mc, rw0⟩) (q, []) := by unfold passS; rw [if_pos rfl]
    rw [e0]
    clear e0 eK
    try dsimp only at kS
    generalize (scan w h).foldl (sigS ⟨w, h, sN, o, mc, rw0⟩) (q, []) = e1 at *
    go_enter Tryd.func18, Tryd.ntmps18
    go_wp2_with (first | (go_at_call 50; (with_reducible refine kc1.mono ?_); rintro e wa ⟨rfl, hBa⟩; have WA := Lib.hid (below_call HM.out hBa); have MB := Lib.hid ((Blk.new W 26 #[.bool mb, .bool mr, .bool ms, .bool mc, .bool my]).below hBa); obtain ⟨m0, m1, m2, m3, m4⟩ := md MB.out; clear hBa) | (go_at_call 51; (with_reducible refine (kp _).mono ?_); rintro e wn ⟨rfl, rfl⟩) | (go_at_call 52; (with_reducible refine (kr _).mono ?_); rintro e wb ⟨rfl, hBb⟩; have WB := Lib.hid (below_call WA.out hBb); have MC := Lib.hid (MB.out.below hBb); clear m0 m1 m2 m3 m4; obtain ⟨m0, m1, m2, m3, m4⟩ := md MC.out; have n3 := fun X Y => cell_alloc (cell_alloc m3 X) Y; have n4 := fun X Y Z => cell_alloc (cell_alloc (cell_alloc m4 X) Y) Z; have E0 := ec_begin HH.out HT.out HOK.out HBB.out WB.out sN HS.out o mc rw0; have kE := kS E0; clear E0 hBb) | (go_at_call 54; (with_reducible refine kE.mono ?_); rintro e wz ⟨rfl, H2, K2⟩; obtain ⟨v, vL, v1, v2, v3⟩ := ec_end H2; dsimp only at vL v1 v2 v3; have V1 := Lib.hid v1; have V2 := Lib.hid v2; have V3 := Lib.hid v3; clear v1 v2 v3 H2 K2))
    go_ret2
    exact ⟨v, rfl, V1.out, V2.out, V3.out⟩
  · have kS := fun {W1 : World} {a : Adr} (E : Ec W W1 a ⟨w, h, sN, o, mc, rw0⟩ (q, [])) => refp_c E (by simp)
    have e0 : passS ⟨w, h, sN, o, mc, rw0⟩ 1 my (q, []) = (scan w h).foldl (refS ⟨w, h, sN, o, mc, rw0⟩) (q, []) := by unfold passS; rw [if_neg (by decide), if_pos rfl]
    rw [e0]
    clear e0 eK
    try dsimp only at kS
    generalize (scan w h).foldl (refS ⟨w, h, sN, o, mc, rw0⟩) (q, []) = e1 at *
    go_enter Tryd.func18, Tryd.ntmps18
    go_wp2_with (first | (go_at_call 50; (with_reducible refine kc1.mono ?_); rintro e wa ⟨rfl, hBa⟩; have WA := Lib.hid (below_call HM.out hBa); have MB := Lib.hid ((Blk.new W 26 #[.bool mb, .bool mr, .bool ms, .bool mc, .bool my]).below hBa); obtain ⟨m0, m1, m2, m3, m4⟩ := md MB.out; clear hBa) | (go_at_call 51; (with_reducible refine (kp _).mono ?_); rintro e wn ⟨rfl, rfl⟩) | (go_at_call 52; (with_reducible refine (kr _).mono ?_); rintro e wb ⟨rfl, hBb⟩; have WB := Lib.hid (below_call WA.out hBb); have MC := Lib.hid (MB.out.below hBb); clear m0 m1 m2 m3 m4; obtain ⟨m0, m1, m2, m3, m4⟩ := md MC.out; have n3 := fun X Y => cell_alloc (cell_alloc m3 X) Y; have n4 := fun X Y Z => cell_alloc (cell_alloc (cell_alloc m4 X) Y) Z; have E0 := ec_begin HH.out HT.out HOK.out HBB.out WB.out sN HS.out o mc rw0; have kE := kS E0; clear E0 hBb) | (go_at_call 55; (with_reducible refine kE.mono ?_); rintro e wz ⟨rfl, H2, K2⟩; obtain ⟨v, vL, v1, v2, v3⟩ := ec_end H2; dsimp only at vL v1 v2 v3; have V1 := Lib.hid v1; have V2 := Lib.hid v2; have V3 := Lib.hid v3; clear v1 v2 v3 H2 K2))
    go_ret2
    exact ⟨v, rfl, V1.out, V2.out, V3.out⟩
  · have kS := fun {W1 : World} {a : Adr} (E : Ec W W1 a ⟨w, h, sN, o, mc, rw0⟩ (q, [])) => cleanup_c E my (by simp)
    have e0 : passS ⟨w, h, sN, o, mc, rw0⟩ 2 my (q, []) = cleanS ⟨w, h, sN, o, mc, rw0⟩ my (q, []) := by unfold passS; rw [if_neg (by decide), if_neg (by decide)]
    rw [e0]
    clear e0 eK
    try dsimp only at kS
    generalize cleanS ⟨w, h, sN, o, mc, rw0⟩ my (q, []) = e1 at *
    go_enter Tryd.func18, Tryd.ntmps18
    go_wp2_with (first | (go_at_call 50; (with_reducible refine kc1.mono ?_); rintro e wa ⟨rfl, hBa⟩; have WA := Lib.hid (below_call HM.out hBa); have MB := Lib.hid ((Blk.new W 26 #[.bool mb, .bool mr, .bool ms, .bool mc, .bool my]).below hBa); obtain ⟨m0, m1, m2, m3, m4⟩ := md MB.out; clear hBa) | (go_at_call 51; (with_reducible refine (kp _).mono ?_); rintro e wn ⟨rfl, rfl⟩) | (go_at_call 52; (with_reducible refine (kr _).mono ?_); rintro e wb ⟨rfl, hBb⟩; have WB := Lib.hid (below_call WA.out hBb); have MC := Lib.hid (MB.out.below hBb); clear m0 m1 m2 m3 m4; obtain ⟨m0, m1, m2, m3, m4⟩ := md MC.out; have n3 := fun X Y => cell_alloc (cell_alloc m3 X) Y; have n4 := fun X Y Z => cell_alloc (cell_alloc (cell_alloc m4 X) Y) Z; have E0 := ec_begin HH.out HT.out HOK.out HBB.out WB.out sN HS.out o mc rw0; have kE := kS E0; clear E0 hBb) | (go_at_call 56; (with_reducible refine kE.mono ?_); rintro e wz ⟨rfl, H2, K2⟩; obtain ⟨v, vL, v1, v2, v3⟩ := ec_end H2; dsimp only at vL v1 v2 v3; have V1 := Lib.hid v1; have V2 := Lib.hid v2; have V3 := Lib.hid v3; clear v1 v2 v3 H2 K2))
    go_ret2
    exact ⟨v, rfl, V1.out, V2.out, V3.out⟩
end Go.Proofs.YtbhjapgioaiocaaDoor
