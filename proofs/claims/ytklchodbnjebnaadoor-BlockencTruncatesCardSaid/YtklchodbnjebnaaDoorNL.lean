/-
  Layer 15: the arguments' check; Run.
  Layer 15: the number of bit planes.
  Layer 15: the values laid into a block; Symbols.
  Layer 15: Symbols of the code.
-/
import Derived.Test.YtklchodbnjebnaaDoorNK
import Derived.Laws.EntriesVeiled
import Derived.Shelf.Strconv.Itoa0
set_option maxRecDepth 100000
namespace Go.Proofs.YtklchodbnjebnaaDoor
open Go.RowKit

/-- The error of a pass's arguments, for a block. -/
def runE (pass planes o : Int) : Int := if planes < 1 ∨ 60 < planes ∨ pass < 0 ∨ 3 * planes - 3 < pass then 2 else if o < 0 ∨ 3 < o then 3 else 0
theorem known_c (o : Int) (W : World) : Calls Tryd.prog 31 #[.int .i64 o] W fun e w' => e = .returned (.bool (decide (0 ≤ o ∧ o ≤ 3))) ∧ W = w' := by
  by_cases h1 : 0 ≤ o
  · by_cases h2 : o ≤ 3
    · rw [decide_eq_true (show 0 ≤ o ∧ o ≤ 3 from ⟨h1, h2⟩)]
      go_enter Tryd.func31, Tryd.ntmps31
      go_wp2_with fail
      go_ret
      exact ⟨rfl, rfl⟩
    · rw [decide_eq_false (show ¬ (0 ≤ o ∧ o ≤ 3) by omega)]
      go_enter Tryd.func31, Tryd.ntmps31
      go_wp2_with fail
      go_ret
      exact ⟨by first | rfl | simpa using h2, rfl⟩
  · rw [decide_eq_false (show ¬ (0 ≤ o ∧ o ≤ 3) by omega)]
    go_enter Tryd.func31, Tryd.ntmps31
    go_wp2_with fail
    go_ret
    exact ⟨rfl, rfl⟩
theorem check_c {W : World} {B A V S T R w h : Nat} {q : St} (H : Cb W B A V S T R w h q) (pass planes o : Int) : Calls Tryd.prog 45 #[.pointer (some ⟨A, 0, none⟩), .int .i64 pass, .int .i64 planes, .int .i64 o] W fun e w' => e = .returned (.int .i64 (runE pass planes o)) ∧ Below W.heap.size W w' := by
  have ks := size_c H
  have hf := H.fit
  have hw : (((w : Int)) == 0) = false := by unfold fits at hf; simp; omega
  have kk := fun W => known_c o W
  unfold runE
  clear H hf
  have w3 : 1 ≤ planes → planes ≤ 60 → IntKind.i64.wrap (3 * planes) = 3 * planes ∧ IntKind.i64.wrap (3 * planes - 3) = 3 * planes - 3 := fun h1 h2 => by
    constructor <;> (rw [IntWalk.i64_left]; unfold wrap64; omega)
  have W3 := Lib.hid w3
  clear w3
  by_cases h1 : planes < 1
  · rw [if_pos (.inl h1)]
    go_enter Tryd.func45, Tryd.ntmps45
    go_wp2_with (first | (go_at_call 55; (with_reducible refine ks.mono ?_); rintro e wa ⟨rfl, hBa⟩))
    go_ret
    exact ⟨rfl, hBa⟩
  by_cases h2 : 60 < planes
  · rw [if_pos (.inr (.inl h2))]
    go_enter Tryd.func45, Tryd.ntmps45
    go_wp2_with (first | (go_at_call 55; (with_reducible refine ks.mono ?_); rintro e wa ⟨rfl, hBa⟩))
    go_ret
    exact ⟨rfl, hBa⟩
  obtain ⟨e1, e2⟩ := W3.out (by omega) (by omega)
  by_cases h3 : pass < 0
  · rw [if_pos (.inr (.inr (.inl h3)))]
    go_enter Tryd.func45, Tryd.ntmps45
    go_wp2_with (first | (go_at_call 55; (with_reducible refine ks.mono ?_); rintro e wa ⟨rfl, hBa⟩))
    go_ret
    exact ⟨rfl, hBa⟩
  by_cases h4 : 3 * planes - 3 < pass
  · rw [if_pos (.inr (.inr (.inr h4)))]
    go_enter Tryd.func45, Tryd.ntmps45
    go_wp2_with (first | (go_at_call 55; (with_reducible refine ks.mono ?_); rintro e wa ⟨rfl, hBa⟩))
    go_ret
    exact ⟨rfl, hBa⟩
  rw [if_neg (by omega)]
  by_cases h5 : 0 ≤ o ∧ o ≤ 3
  · rw [if_neg (by omega)]
    rw [decide_eq_true h5] at kk
    go_enter Tryd.func45, Tryd.ntmps45
    go_wp2_with (first | (go_at_call 55; (with_reducible refine ks.mono ?_); rintro e wa ⟨rfl, hBa⟩) | (go_at_call 31; (with_reducible refine (kk _).mono ?_); rintro e wn ⟨rfl, rfl⟩))
    go_ret
    exact ⟨rfl, hBa⟩
  · rw [if_pos (by omega)]
    rw [decide_eq_false h5] at kk
    go_enter Tryd.func45, Tryd.ntmps45
    go_wp2_with (first | (go_at_call 55; (with_reducible refine ks.mono ?_); rintro e wa ⟨rfl, hBa⟩) | (go_at_call 31; (with_reducible refine (kk _).mono ?_); rintro e wn ⟨rfl, rfl⟩))
    go_ret
    exact ⟨rfl, hBa⟩
/-- What a pass is performed with. -/
def ppR (w h : Nat) (pass planes o : Int) (m : Mo) : Pp := ⟨w, h, (planes - 1 - plnP pass).toNat, o, m.c, rawM pass m.b⟩
def runQ (w h : Nat) (pass planes o : Int) (m : Mo) (q : St) : Es := passS (ppR w h pass planes o m) (kndP pass) m.y (q, [])
theorem md {w : World} {g : Nat} {a b c d y : Bool} (h : Blk w g 27 #[.bool a, .bool b, .bool c, .bool d, .bool y]) : w.cell? ⟨g, 0, none⟩ = some (.bool a) ∧ w.cell? ⟨g, 1, none⟩ = some (.bool b) ∧ w.cell? ⟨g, 2, none⟩ = some (.bool c) ∧ w.cell? ⟨g, 3, none⟩ = some (.bool d) ∧ w.cell? ⟨g, 4, none⟩ = some (.bool y) := ⟨h.cell 0, h.cell 1, h.cell 2, h.cell 3, h.cell 4⟩
theorem cb_old {W : World} {B A V S T R w h : Nat} {q : St} (H : Cb W B A V S T R w h q) (k : Nat) (hk : k ∈ [A, V, S, T, R]) : k < W.heap.size := by
  simp at hk
  rcases hk with rfl | rfl | rfl | rfl | rfl
  · exact H.obj.lt
  · exact H.gv.lt
  · exact H.gs.lt
  · exact H.gt.lt
  · exact H.gr.lt
theorem alloc_size (w : World) (o : Obj) : (w.alloc o).heap.size = w.heap.size + 1 := by simp
theorem ec_begin {W wb : World} {B A V S T R w h : Nat} {q : St} (H : Cb W B A V S T R w h q) (hT : Cx.Tabs W) (hok : ∀ x y, okV (q.v x y)) (hB : 3 ≤ B) (hb : Below W.heap.size W wb) (s : Nat) (hs : s ≤ 59) (o : Int) (c r : Bool) :
    Ec W (((wb.alloc (.cells #[.bool r] 4)).alloc (.cells #[.slice none 0 0] 68)).alloc (.cells #[.pointer (some ⟨A, 0, none⟩), .int .i64 (s : Int), .int .i64 o, .bool c, .bool r, .func (.func 47) #[] #[.pointer (some ⟨wb.heap.size, 0, none⟩), .pointer (some ⟨wb.heap.size + 1, 0, none⟩)]] 107)) ⟨B, A, V, S, T, R, wb.heap.size + 2, wb.heap.size, wb.heap.size + 1⟩ ⟨w, h, s, o, c, r⟩ (q, []) := by
  have b1 := below_alloc (Below.refl _ wb) (.cells #[.bool r] 4)
  have b2 := below_alloc (Below.refl _ (wb.alloc (.cells #[.bool r] 4))) (.cells #[.slice none 0 0] 68)
  have b3 := below_alloc (Below.refl _ ((wb.alloc (.cells #[.bool r] 4)).alloc (.cells #[.slice none 0 0] 68))) (.cells #[.pointer (some ⟨A, 0, none⟩), .int .i64 (s : Int), .int .i64 o, .bool c, .bool r, .func (.func 47) #[] #[.pointer (some ⟨wb.heap.size, 0, none⟩), .pointer (some ⟨wb.heap.size + 1, 0, none⟩)]] 107)
  have hz := hb.size
  have ba := below_call (below_call (below_call hb b1) b2) b3
  have s1 : (wb.alloc (.cells #[.bool r] 4)).heap.size = wb.heap.size + 1 := alloc_size _ _
  have s2 : ((wb.alloc (.cells #[.bool r] 4)).alloc (.cells #[.slice none 0 0] 68)).heap.size = wb.heap.size + 2 := by rw [alloc_size, alloc_size]
  have k1 := ((Blk.new wb 4 #[.bool r]).below b2).below b3
  have k2 := (Blk.new (wb.alloc (.cells #[.bool r] 4)) 68 #[.slice none 0 0]).below b3
  have k3 := Blk.new ((wb.alloc (.cells #[.bool r] 4)).alloc (.cells #[.slice none 0 0] 68)) 107 #[.pointer (some ⟨A, 0, none⟩), .int .i64 (s : Int), .int .i64 o, .bool c, .bool r, .func (.func 47) #[] #[.pointer (some ⟨wb.heap.size, 0, none⟩), .pointer (some ⟨wb.heap.size + 1, 0, none⟩)]]
  rw [s1] at k2
  rw [s2] at k3
  exact ⟨H.below ba, hT.below ba, k3, k1, ⟨_, k2, World.ownsRow_nil _ _ _ _⟩, hok, hs, hB, cb_old H, by show W.heap.size ≤ wb.heap.size + 2; omega, hz, by show W.heap.size ≤ wb.heap.size + 1; omega, Kb.of_below _ ba⟩
/-- What Run gives of a coder's end. -/
theorem ec_end {W W' : World} {a : Adr} {p : Pp} {e : Es} (H : Ec W W' a p e) : ∃ v, W'.cell? ⟨a.L, 0, none⟩ = some v ∧ Cb W' a.B a.A a.V a.S a.T a.R p.w p.h e.1 ∧ Kb [a.V, a.S, a.T, a.R] W W' ∧ W'.ownsRow W.heap.size 104 2 v e.2.length (cellsP e.2) := by
  obtain ⟨v, h1, h2⟩ := H.sv
  exact ⟨v, h1.cell 0, H.cb, H.kb, h2⟩
set_option maxHeartbeats 4000000 in
theorem run_ok {W : World} {B A V S T R w h : Nat} {q : St} (H : Cb W B A V S T R w h q) (hT : Cx.Tabs W) (hok : ∀ x y, okV (q.v x y)) (hB : 3 ≤ B) (pass planes o : Int) (m : Mo) (hc : runE pass planes o = 0) :
    Calls Tryd.prog 33 #[.pointer (some ⟨A, 0, none⟩), .int .i64 pass, .int .i64 planes, .int .i64 o, m.val] W fun E W' => ∃ v, E = .returned (.tuple #[v, .int .i64 0]) ∧ Cb W' B A V S T R w h (runQ w h pass planes o m q).1 ∧ Kb [V, S, T, R] W W' ∧ W'.ownsRow W.heap.size 104 2 v (runQ w h pass planes o m q).2.length (cellsP (runQ w h pass planes o m q).2) := by
  have hr : 1 ≤ planes ∧ planes ≤ 60 ∧ 0 ≤ pass ∧ pass ≤ 3 * planes - 3 := by
    unfold runE at hc
    split at hc
    · cases hc
    · omega
  have kc := fun W' (hb : Below W.heap.size W W') => check_c (H.below hb) pass planes o
  rw [hc] at kc
  have kp := fun W => pass_c pass (by omega) W
  have kr := fun W => raw_c pass m (by omega) W
  have hpl : 0 ≤ plnP pass ∧ plnP pass ≤ planes - 1 := by unfold plnP; split; omega; split <;> omega
  have hkn := knd_in pass hr.2.2.1
  obtain ⟨mb, mr, ms, mc, my⟩ := m
  unfold Mo.val at *
  obtain ⟨sN, hsN⟩ : ∃ s, s = (planes - 1 - plnP pass).toNat := ⟨_, rfl⟩
  have hs59 : sN ≤ 59 := by omega
  have wp1 : IntKind.i64.wrap (planes - 1) = planes - 1 := by rw [IntWalk.i64_left]; unfold wrap64; omega
  have wp2 : IntKind.i64.wrap (planes - 1 - plnP pass) = (sN : Int) := by rw [IntWalk.i64_left]; unfold wrap64; omega
  have eP : ppR w h pass planes o ⟨mb, mr, ms, mc, my⟩ = ⟨w, h, sN, o, mc, rawM pass mb⟩ := by unfold ppR; rw [hsN]
  have eQ : runQ w h pass planes o ⟨mb, mr, ms, mc, my⟩ q = passS ⟨w, h, sN, o, mc, rawM pass mb⟩ (kndP pass) my (q, []) := by unfold runQ; rw [eP]
  rw [eQ]
  have HH := Lib.hid H
  have HT := Lib.hid hT
  have HOK := Lib.hid hok
  have HBB := Lib.hid hB
  have HS := Lib.hid hs59
  have hM := below_alloc (Below.refl _ W) (.cells #[.bool mb, .bool mr, .bool ms, .bool mc, .bool my] 27)
  have kc1 := kc _ hM
  have HM := Lib.hid hM
  clear kc hM H hT hok hB hs59 hr hpl hsN eP eQ hc
  generalize rawM pass mb = rw0 at *
  have eK : ∀ k : Int, kndP pass = k → passS ⟨w, h, sN, o, mc, rw0⟩ (kndP pass) my (q, []) = passS ⟨w, h, sN, o, mc, rw0⟩ k my (q, []) := fun k h => by rw [h]
  generalize kndP pass = kd at *
  generalize plnP pass = pl at *
  rcases hkn with rfl | rfl | rfl
  · have kS := fun {W1 : World} {a : Adr} (E : Ec W W1 a ⟨w, h, sN, o, mc, rw0⟩ (q, [])) => sigp_c E (by simp)
    have e0 : passS ⟨w, h, sN, o, mc, rw0⟩ 0 my (q, []) = (scan w h).foldl (sigS ⟨w, h, sN, o, mc, rw0⟩) (q, []) := by unfold passS; rw [if_pos rfl]
    rw [e0]
    clear e0 eK
    try dsimp only at kS
    generalize (scan w h).foldl (sigS ⟨w, h, sN, o, mc, rw0⟩) (q, []) = e1 at *
    go_enter Tryd.func33, Tryd.ntmps33
    go_wp2_with (first | (go_at_call 45; (with_reducible refine kc1.mono ?_); rintro e wa ⟨rfl, hBa⟩; have WA := Lib.hid (below_call HM.out hBa); have MB := Lib.hid ((Blk.new W 27 #[.bool mb, .bool mr, .bool ms, .bool mc, .bool my]).below hBa); obtain ⟨m0, m1, m2, m3, m4⟩ := md MB.out; clear hBa) | (go_at_call 46; (with_reducible refine (kp _).mono ?_); rintro e wn ⟨rfl, rfl⟩) | (go_at_call 37; (with_reducible refine (kr _).mono ?_); rintro e wb ⟨rfl, hBb⟩; have WB := Lib.hid (below_call WA.out hBb); have MC := Lib.hid (MB.out.below hBb); clear m0 m1 m2 m3 m4; obtain ⟨m0, m1, m2, m3, m4⟩ := md MC.out; have n3 := fun X Y => cell_alloc (cell_alloc m3 X) Y; have n4 := fun X Y Z => cell_alloc (cell_alloc (cell_alloc m4 X) Y) Z; have E0 := ec_begin HH.out HT.out HOK.out HBB.out WB.out sN HS.out o mc rw0; have kE := kS E0; clear E0 hBb) | (go_at_call 48; (with_reducible refine kE.mono ?_); rintro e wz ⟨rfl, H2, K2⟩; obtain ⟨v, vL, v1, v2, v3⟩ := ec_end H2; dsimp only at vL v1 v2 v3; have V1 := Lib.hid v1; have V2 := Lib.hid v2; have V3 := Lib.hid v3; clear v1 v2 v3 H2 K2))
    go_ret2
    exact ⟨v, rfl, V1.out, V2.out, V3.out⟩
  · have kS := fun {W1 : World} {a : Adr} (E : Ec W W1 a ⟨w, h, sN, o, mc, rw0⟩ (q, [])) => refp_c E (by simp)
    have e0 : passS ⟨w, h, sN, o, mc, rw0⟩ 1 my (q, []) = (scan w h).foldl (refS ⟨w, h, sN, o, mc, rw0⟩) (q, []) := by unfold passS; rw [if_neg (by decide), if_pos rfl]
    rw [e0]
    clear e0 eK
    try dsimp only at kS
    generalize (scan w h).foldl (refS ⟨w, h, sN, o, mc, rw0⟩) (q, []) = e1 at *
    go_enter Tryd.func33, Tryd.ntmps33
    go_wp2_with (first | (go_at_call 45; (with_reducible refine kc1.mono ?_); rintro e wa ⟨rfl, hBa⟩; have WA := Lib.hid (below_call HM.out hBa); have MB := Lib.hid ((Blk.new W 27 #[.bool mb, .bool mr, .bool ms, .bool mc, .bool my]).below hBa); obtain ⟨m0, m1, m2, m3, m4⟩ := md MB.out; clear hBa) | (go_at_call 46; (with_reducible refine (kp _).mono ?_); rintro e wn ⟨rfl, rfl⟩) | (go_at_call 37; (with_reducible refine (kr _).mono ?_); rintro e wb ⟨rfl, hBb⟩; have WB := Lib.hid (below_call WA.out hBb); have MC := Lib.hid (MB.out.below hBb); clear m0 m1 m2 m3 m4; obtain ⟨m0, m1, m2, m3, m4⟩ := md MC.out; have n3 := fun X Y => cell_alloc (cell_alloc m3 X) Y; have n4 := fun X Y Z => cell_alloc (cell_alloc (cell_alloc m4 X) Y) Z; have E0 := ec_begin HH.out HT.out HOK.out HBB.out WB.out sN HS.out o mc rw0; have kE := kS E0; clear E0 hBb) | (go_at_call 49; (with_reducible refine kE.mono ?_); rintro e wz ⟨rfl, H2, K2⟩; obtain ⟨v, vL, v1, v2, v3⟩ := ec_end H2; dsimp only at vL v1 v2 v3; have V1 := Lib.hid v1; have V2 := Lib.hid v2; have V3 := Lib.hid v3; clear v1 v2 v3 H2 K2))
    go_ret2
    exact ⟨v, rfl, V1.out, V2.out, V3.out⟩
  · have kS := fun {W1 : World} {a : Adr} (E : Ec W W1 a ⟨w, h, sN, o, mc, rw0⟩ (q, [])) => cleanup_c E my (by simp)
    have e0 : passS ⟨w, h, sN, o, mc, rw0⟩ 2 my (q, []) = cleanS ⟨w, h, sN, o, mc, rw0⟩ my (q, []) := by unfold passS; rw [if_neg (by decide), if_neg (by decide)]
    rw [e0]
    clear e0 eK
    try dsimp only at kS
    generalize cleanS ⟨w, h, sN, o, mc, rw0⟩ my (q, []) = e1 at *
    go_enter Tryd.func33, Tryd.ntmps33
    go_wp2_with (first | (go_at_call 45; (with_reducible refine kc1.mono ?_); rintro e wa ⟨rfl, hBa⟩; have WA := Lib.hid (below_call HM.out hBa); have MB := Lib.hid ((Blk.new W 27 #[.bool mb, .bool mr, .bool ms, .bool mc, .bool my]).below hBa); obtain ⟨m0, m1, m2, m3, m4⟩ := md MB.out; clear hBa) | (go_at_call 46; (with_reducible refine (kp _).mono ?_); rintro e wn ⟨rfl, rfl⟩) | (go_at_call 37; (with_reducible refine (kr _).mono ?_); rintro e wb ⟨rfl, hBb⟩; have WB := Lib.hid (below_call WA.out hBb); have MC := Lib.hid (MB.out.below hBb); clear m0 m1 m2 m3 m4; obtain ⟨m0, m1, m2, m3, m4⟩ := md MC.out; have n3 := fun X Y => cell_alloc (cell_alloc m3 X) Y; have n4 := fun X Y Z => cell_alloc (cell_alloc (cell_alloc m4 X) Y) Z; have E0 := ec_begin HH.out HT.out HOK.out HBB.out WB.out sN HS.out o mc rw0; have kE := kS E0; clear E0 hBb) | (go_at_call 50; (with_reducible refine kE.mono ?_); rintro e wz ⟨rfl, H2, K2⟩; obtain ⟨v, vL, v1, v2, v3⟩ := ec_end H2; dsimp only at vL v1 v2 v3; have V1 := Lib.hid v1; have V2 := Lib.hid v2; have V3 := Lib.hid v3; clear v1 v2 v3 H2 K2))
    go_ret2
    exact ⟨v, rfl, V1.out, V2.out, V3.out⟩
end Go.Proofs.YtklchodbnjebnaaDoor
set_option maxRecDepth 100000
namespace Go.Proofs.YtklchodbnjebnaaDoor
open Go.RowKit

theorem len_lays : Lays.n129 Tryd.prog ⟨fun _ => 39, fun n => if n = 3 then 3 else if n = 4 then 4 else if n = 5 then 5 else if n = 9 then 9 else if n = 46 then 122 else 86, fun n => n⟩ where
  mixed := by kernel_rfl
  f129 := Tryd.func39.trans (congrArg some (by kernel_rfl))
  t3 := Tryd.underlying3
  a3 := Tryd.isAgg3
  z3 := Tryd.sizeOf3
  v3 := Tryd.zeroValue3
  t4 := Tryd.underlying4
  a4 := Tryd.isAgg4
  z4 := Tryd.sizeOf4
  v4 := Tryd.zeroValue4
  t5 := Tryd.underlying5
  a5 := Tryd.isAgg5
  z5 := Tryd.sizeOf5
  v5 := Tryd.zeroValue5
  t9 := Tryd.underlying9
  a9 := Tryd.isAgg9
  z9 := Tryd.sizeOf9
  v9 := Tryd.zeroValue9
  t46 := Tryd.underlying122
  a46 := Tryd.isAgg122
  z46 := Tryd.sizeOf122
  v46 := Tryd.zeroValue122
  t53 := Tryd.underlying86
  a53 := Tryd.isAgg86
  z53 := Tryd.sizeOf86
  v53 := Tryd.zeroValue86
theorem len_q (x : Int) (w : World) (h0 : 0 ≤ x) (h1 : x ≤ 18446744073709551615) :
    Calls Tryd.prog 39 #[.int .u64 x] w fun e w' => e = .returned (.int .i64 (Lib.bitLen x.toNat)) ∧ w' = w :=
  Any.bits_Len64 len_lays x w h0 h1
def mxN (l : List Int) : Nat := l.foldl (fun m v => max m v.natAbs) 0
def plnN (l : List Int) : Nat := Lib.bitLen (mxN l)
theorem mxN_take (l : List Int) (k : Nat) (hk : k < l.length) : mxN (l.take (k + 1)) = max (mxN (l.take k)) l[k].natAbs := foldl_take (fun m (v : Int) => max m v.natAbs) 0 l k hk
theorem foldl_max (l : List Int) (m0 : Nat) : m0 ≤ l.foldl (fun m v => max m v.natAbs) m0 ∧ ∀ v ∈ l, v.natAbs ≤ l.foldl (fun m v => max m v.natAbs) m0 := by
  induction l generalizing m0 with
  | nil => simp
  | cons a l ih =>
    obtain ⟨h1, h2⟩ := ih (max m0 a.natAbs)
    refine ⟨by rw [List.foldl_cons]; omega, fun v hv => ?_⟩
    rw [List.foldl_cons]
    rcases List.mem_cons.1 hv with rfl | h
    · omega
    · exact h2 v h
theorem mxN_le (l : List Int) (v : Int) (hv : v ∈ l) : v.natAbs ≤ mxN l := (foldl_max l 0).2 v hv
theorem foldl_max_lt (l : List Int) (b : Nat) (h : ∀ v ∈ l, v.natAbs < b) (m0 : Nat) (hm : m0 < b) : l.foldl (fun m v => max m v.natAbs) m0 < b := by
  induction l generalizing m0 with
  | nil => exact hm
  | cons a l ih =>
    rw [List.foldl_cons]
    have := h a (by simp)
    exact ih (fun v hv => h v (List.mem_cons_of_mem _ hv)) _ (by omega)
theorem mxN_lt (l : List Int) (b : Nat) (hb : 0 < b) (h : ∀ v ∈ l, v.natAbs < b) : mxN l < b := foldl_max_lt l b h 0 hb
theorem mxN_64 (l : List Int) (h : ∀ v ∈ l, i64R v) : mxN l ≤ 9223372036854775808 := by
  have := mxN_lt l 9223372036854775809 (by decide) fun v hv => by have := h v hv; unfold i64R at this; omega
  omega
set_option maxHeartbeats 4000000 in
theorem planes_c (s : Option Addr) (l : List Int) (m : Nat) (W : World) (hH : HoldsI W s l) (hr : ∀ v ∈ l, i64R v) (hl : l.length ≤ 1000000000) : Calls Tryd.prog 25 #[.slice s l.length m] W fun e w' => e = .returned (.int .i64 (plnN l : Int)) ∧ W = w' := by
  have hmx := hmx
  have HR := Lib.hid hr
  have HHH := Lib.hid hH
  have HL := Lib.hid hl
  have h64 := fun k => mxN_64 (l.take k) (fun v hv => hr v (List.mem_of_mem_take hv))
  have H64 := Lib.hid h64
  clear hr hH hl h64
  go_enter Tryd.func25, Tryd.ntmps25
  go_wp2_with fail
  go_loopw [3, 8] (fun z i wr => ∃ k : Nat, k ≤ l.length ∧ i = .int .i64 (k : Int) ∧ z = .int .u64 ((mxN (l.take k) : Nat) : Int) ∧ Hid (W = wr)) (fun _ i _ => (l.length - (intOf i).toNat))
  case atStart => exact ⟨0, by omega, rfl, rfl, rfl⟩
  case round =>
    obtain ⟨k, hk, rfl, rfl, hW⟩ := hrel
    obtain rfl := hW.out
    by_cases hlt : k < l.length
    · obtain ⟨b, off, rfl, hA⟩ := HHH.out.resolve_left (fun h => by rw [h] at hlt; simp at hlt)
      have c0 := hA k hlt
      have hnx := mxN_take l k hlt
      have hv := HR.out _ (List.getElem_mem hlt)
      have h1 := H64.out k
      obtain ⟨v, hve⟩ : ∃ v, v = l[k] := ⟨_, rfl⟩
      rw [← hve] at c0 hnx hv
      obtain ⟨v', hv'⟩ : ∃ v', v' = IntKind.i64.wrap (-v) := ⟨_, rfl⟩
      have wv : IntKind.i64.wrap (-v) = v' := hv'.symm
      have wc : IntKind.u64.wrap (max v v') = (v.natAbs : Int) := by
        unfold i64R at hv
        rw [IntWalk.i64_left] at hv'
        have e : IntKind.u64.wrap (max v v') = (max v v') % 18446744073709551616 := by unfold IntKind.wrap; simp [IntKind.bits, IntKind.signed]
        rw [e, hv']
        unfold wrap64
        omega
      have hmm : max ((mxN (l.take k) : Nat) : Int) (v.natAbs : Int) = ((mxN (l.take (k + 1)) : Nat) : Int) := by rw [hnx]; omega
      have wk : IntKind.i64.wrap ((k : Int) + 1) = ((k + 1 : Nat) : Int) := by have := HL.out; rw [IntWalk.i64_left]; unfold wrap64; omega
      have HLT := Lib.hid hlt
      clear hv' hnx hv h1 hve
      generalize (v.natAbs : Int) = va at *
      generalize ((mxN (l.take k) : Nat) : Int) = ma at *
      generalize hmb : ((mxN (l.take (k + 1)) : Nat) : Int) = mb at *
      have HMB := Lib.hid hmb
      clear hmb
      go_wp2_with fail
      go_roundw
      case rel => exact ⟨k + 1, HLT.out, by go_num, by rw [HMB.out], trivial⟩
      case measure => have := HLT.out; simp [intOf]; omega
    · have hkl : k = l.length := by omega
      subst hkl
      rw [List.take_length]
      have hq := len_q ((mxN l : Nat) : Int) W (by omega) (by have := H64.out l.length; rw [List.take_length] at this; omega)
      rw [Int.toNat_natCast] at hq
      go_wp2_with (first | (go_at_call 39; (with_reducible refine hq.mono ?_); rintro e wn ⟨rfl, rfl⟩))
      go_ret
      exact ⟨rfl, rfl⟩
end Go.Proofs.YtklchodbnjebnaaDoor
set_option maxRecDepth 100000
namespace Go.Proofs.YtklchodbnjebnaaDoor
open Go.RowKit

/-- The values laid into a block, one after the other. -/
def setV (w h : Nat) (l : List Int) : Nat → St
  | 0 => St.zero
  | k + 1 => setQ w h (setV w h l k) ((k % w : Nat) : Int) ((k / w : Nat) : Int) (l[k]?.getD 0)
/-- The block before a pass; a pass's symbols. -/
def blkP (w h : Nat) (planes o : Int) (m : Mo) (q : St) : Nat → St
  | 0 => q
  | k + 1 => (runQ w h (k : Int) planes o m (blkP w h planes o m q k)).1
def symP (w h : Nat) (planes o : Int) (m : Mo) (q : St) (k : Nat) : List Sy := (runQ w h (k : Int) planes o m (blkP w h planes o m q k)).2
def symL (w h : Nat) (planes o : Int) (m : Mo) (q : St) (n : Nat) : List (List Sy) := (List.range n).map (symP w h planes o m q)
theorem symL_succ (w h : Nat) (planes o : Int) (m : Mo) (q : St) (n : Nat) : symL w h planes o m q (n + 1) = symL w h planes o m q n ++ [symP w h planes o m q n] := by unfold symL; rw [List.range_succ, List.map_append]; rfl
theorem setQ_ok (w h : Nat) (q : St) (x y v : Int) (hq : ∀ x y, okV (q.v x y)) (hv : okV v) : ∀ X Y, okV ((setQ w h q x y v).v X Y) := by
  intro X Y
  unfold setQ
  split
  · show okV (upd q.v x y v X Y)
    unfold upd
    split
    · exact hv
    · exact hq X Y
  · exact hq X Y
theorem setV_ok (w h : Nat) (l : List Int) (hl : ∀ v ∈ l, okV v) (k : Nat) : ∀ X Y, okV ((setV w h l k).v X Y) := by
  induction k with
  | zero => intro X Y; show okV 0; decide
  | succ k ih =>
    refine setQ_ok w h _ _ _ _ ih ?_
    by_cases hk : k < l.length
    · rw [List.getElem?_eq_getElem hk]; exact hl _ (List.getElem_mem hk)
    · rw [List.getElem?_eq_none (by omega)]; decide
theorem foldl_v {α : Type} (f : Es → α → Es) (hf : ∀ e z, (f e z).1.v = e.1.v) (l : List α) (e : Es) : (l.foldl f e).1.v = e.1.v := by
  induction l generalizing e with
  | nil => rfl
  | cons a l ih => rw [List.foldl_cons, ih, hf]
theorem signS_v (p : Pp) (e : Es) (x y : Int) : (signS p e x y).1.v = e.1.v := markQ_v _ _ _ _ _
theorem codeS_v (p : Pp) (e : Es) (x y : Int) : (codeS p e x y).1.v = e.1.v := by
  unfold codeS
  split
  · exact signS_v _ _ _ _
  · rfl
theorem sigS_v (p : Pp) (e : Es) (z : Int × Int) : (sigS p e z).1.v = e.1.v := by
  unfold sigS
  split
  · exact (touchQ_v _ _ _ _ _ _).trans (codeS_v _ _ _ _)
  · rfl
theorem refS_v (p : Pp) (e : Es) (z : Int × Int) : (refS p e z).1.v = e.1.v := by
  unfold refS
  split
  · exact (touchQ_v _ _ _ _ _ _).trans (refineQ_v _ _ _ _ _)
  · rfl
theorem clnS_v (p : Pp) (e : Es) (z : Int × Int) : (clnS p e z).1.v = e.1.v := by
  unfold clnS
  split
  · rfl
  · exact codeS_v _ _ _ _
theorem runS_v (p : Pp) (e : Es) (x top : Nat) : (runS p e x top).1.v = e.1.v := by
  unfold runS
  split
  · rfl
  · exact signS_v _ _ _ _
theorem colS_v (p : Pp) (e : Es) (x top n : Nat) : (colS p e x top n).1.v = e.1.v := by
  unfold colS
  split
  · rw [foldl_v _ (clnS_v p), runS_v]
  · rw [foldl_v _ (clnS_v p)]
theorem strS_v (p : Pp) (e : Es) (top n k : Nat) : (strS p e top n k).1.v = e.1.v := foldl_v _ (fun e x => colS_v p e x top n) _ _
theorem clS_v (p : Pp) (e : Es) (k : Nat) : (clS p e k).1.v = e.1.v := foldl_v _ (fun e _ => strS_v p e _ _ _) _ _
theorem offS_v (p : Pp) (e : Es) (l : List (Int × Int)) : (offS p e l).1.v = e.1.v := foldl_v _ (fun _ _ => touchQ_v _ _ _ _ _ _) _ _
theorem passS_v (p : Pp) (k : Int) (y : Bool) (e : Es) : (passS p k y e).1.v = e.1.v := by
  unfold passS
  split
  · exact foldl_v _ (sigS_v p) _ _
  split
  · exact foldl_v _ (refS_v p) _ _
  · have h : (endS p y (offS p (clS p e ((p.h + 3) / 4)) (scan p.w p.h))).1 = (offS p (clS p e ((p.h + 3) / 4)) (scan p.w p.h)).1 := by unfold endS; split <;> rfl
    unfold cleanS
    rw [h, offS_v, clS_v]
theorem runQ_v (w h : Nat) (pass planes o : Int) (m : Mo) (q : St) : (runQ w h pass planes o m q).1.v = q.v := passS_v _ _ _ _
theorem blkP_v (w h : Nat) (planes o : Int) (m : Mo) (q : St) (k : Nat) : (blkP w h planes o m q k).v = q.v := by
  induction k with
  | zero => rfl
  | succ k ih => rw [← ih]; exact runQ_v _ _ _ _ _ _ _
theorem own2_lower {w : World} {base base' n z : Nat} {e : TypeId} {v : Value} {xs : List Value} (h : w.ownsRow base e z v n xs) (hB : base' ≤ base) : w.ownsRow base' e z v n xs := by
  refine ⟨h.1, ?_⟩
  rcases h.2 with h2 | ⟨g, cap, cur, rfl, hb, h3⟩
  · exact .inl h2
  · exact .inr ⟨g, cap, cur, rfl, Nat.le_trans hB hb, h3⟩
/-- A list of lists of symbols of the call's own. -/
structure SsAt (w W : World) (v : Value) (Ls : List (List Sy)) : Prop where
  ex : ∃ vs : List Value, vs.length = Ls.length ∧ W.ownsRow w.heap.size 68 1 v Ls.length vs ∧ ∀ k (h : k < vs.length) (h2 : k < Ls.length), W.ownsRow w.heap.size 104 2 vs[k] Ls[k].length (cellsP Ls[k])
theorem SsAt.nil (w W : World) : SsAt w W (.slice none 0 0) [] := ⟨[], rfl, World.ownsRow_nil _ _ _ _, fun k h => by simp at h⟩
theorem own2_kb {fp : List Nat} {W W' : World} {base n z : Nat} {e : TypeId} {v : Value} {xs : List Value} (h : W.ownsRow base e z v n xs) (hk : Kb fp W W') (hf : ∀ k ∈ fp, v.ownBlock ≠ some k) : W'.ownsRow base e z v n xs :=
  own2_keep h fun k hv => hk.block k (own2_lt h hv).2 fun hm => hf k hm hv
theorem SsAt.kb {fp : List Nat} {w W W' : World} {v : Value} {Ls : List (List Sy)} (H : SsAt w W v Ls) (hk : Kb fp W W') (hf : ∀ k ∈ fp, ∃ t cs, Blk W k t cs ∧ t ≠ 104 ∧ t ≠ 68) : SsAt w W' v Ls := by
  obtain ⟨vs, h1, h2, h3⟩ := H.ex
  refine ⟨vs, h1, own2_kb h2 hk fun k hm => ?_, fun k h h' => own2_kb (h3 k h h') hk fun j hm => ?_⟩
  · obtain ⟨t, cs, hb, n1, n2⟩ := hf k hm
    exact own_blk_ne h2 hb (Ne.symm n2)
  · obtain ⟨t, cs, hb, n1, n2⟩ := hf j hm
    exact own_blk_ne (h3 k h h') hb (Ne.symm n1)
theorem SsAt.below {w W W' : World} {v : Value} {Ls : List (List Sy)} (H : SsAt w W v Ls) (hb : Below W.heap.size W W') : SsAt w W' v Ls := H.kb (Kb.of_below [] hb) (by simp)
theorem SsAt.grow {w W w2 : World} {v v' u : Value} {Ls : List (List Sy)} {L : List Sy} {X : Obj} {vs : List Value} (h1 : vs.length = Ls.length) (h2 : W.ownsRow w.heap.size 68 1 v Ls.length vs) (h3 : ∀ k (h : k < vs.length) (h2 : k < Ls.length), W.ownsRow w.heap.size 104 2 vs[k] Ls[k].length (cellsP Ls[k]))
    (hu : W.ownsRow w.heap.size 104 2 u L.length (cellsP L)) (hown : w2.ownsRow w.heap.size 68 1 v' (Ls.length + 1) (vs ++ [u])) (hg : (W.alloc X).grownBy w2 v.ownBlock) : SsAt w w2 v' (Ls ++ [L]) := by
  have hal := below_alloc (Below.refl _ W) X
  have keep : ∀ {n : Nat} {x : Value} {xs : List Value}, W.ownsRow w.heap.size 104 2 x n xs → w2.ownsRow w.heap.size 104 2 x n xs := fun {n x xs} h => own2_keep h fun k hk => by
    have hlt := own2_lt h hk
    have hne : some k ≠ v.ownBlock := fun he => by
      rcases h2.2 with ⟨rfl, _⟩ | ⟨g, cap, cur, rfl, hb, hh, _⟩
      · simp [Value.ownBlock] at he
      · have e1 : k = g := by simpa [Value.ownBlock] using he
        subst e1
        exact own_blk_ne h (show Blk W k 68 cur from hh) (by decide) hk
    have := hal.size
    rw [hg.block k (by omega) hne]
    exact hal.block k hlt.2
  refine ⟨vs ++ [u], by simp [h1], by rw [List.length_append]; exact hown, fun k h h' => ?_⟩
  rw [List.length_append] at h h'
  by_cases hk : k < vs.length
  · rw [List.getElem_append_left hk, List.getElem_append_left (by omega)]
    exact keep (h3 k hk (by omega))
  · have e1 : k = vs.length := by simp at h; omega
    subst e1
    rw [List.getElem_append_right (by omega)]
    have : (Ls ++ [L])[vs.length]'(by simp; omega) = L := by
      rw [List.getElem_append_right (by omega)]
      simp [h1]
    rw [this]
    simp
    exact keep hu
end Go.Proofs.YtklchodbnjebnaaDoor
set_option maxRecDepth 100000
namespace Go.Proofs.YtklchodbnjebnaaDoor
open Go.RowKit

instance (w h : Int) : Decidable (fits w h) := by unfold fits; infer_instance
/-- The error of Symbols; what it returns. -/
def symE (l : List Int) (w h o : Int) : Int := if ¬ fits w h then 2 else if (l.length : Int) ≠ w * h then 4 else if o < 0 ∨ 3 < o then 3 else if ∃ v ∈ l, ¬ okV v then 2 else 0
def SGv (w : World) (c : Int) (Ls : List (List Sy)) (E : Ending) (W' : World) : Prop := ∃ v, E = .returned (.tuple #[v, .int .i64 c]) ∧ SsAt w W' v Ls ∧ Below w.heap.size w W'
theorem cb_types {W : World} {B A V S T R w h : Nat} {q : St} (H : Cb W B A V S T R w h q) : ∀ k ∈ [V, S, T, R], ∃ t cs, Blk W k t cs ∧ t ≠ 104 ∧ t ≠ 68 := by
  intro k hk
  simp at hk
  obtain ⟨c1, h1, _⟩ := H.gv
  obtain ⟨c2, h2, _⟩ := H.gs
  obtain ⟨c3, h3, _⟩ := H.gt
  obtain ⟨c4, h4, _⟩ := H.gr
  rcases hk with rfl | rfl | rfl | rfl
  · exact ⟨_, _, h1, by decide, by decide⟩
  · exact ⟨_, _, h2, by decide, by decide⟩
  · exact ⟨_, _, h3, by decide, by decide⟩
  · exact ⟨_, _, h4, by decide, by decide⟩
theorem infoSs : (Tryd.prog.info? 68).map (fun i => (i.zero, i.size, i.bytes)) = some (some (.slice none 0 0), 1, 24) := by kernel_rfl
/-- What an append to a list of lists keeps. -/
theorem grown_keep {W w2 : World} {base n : Nat} {v : Value} {xs : List Value} {X : Obj} (h2 : W.ownsRow base 68 1 v n xs) (hg : (W.alloc X).grownBy w2 v.ownBlock) : ∀ k t cs, Blk W k t cs → t ≠ 68 → Blk w2 k t cs := fun k t cs hb hne => by
  refine (hb.alloc X).grown hg fun he => ?_
  exact own_blk_ne h2 hb (Ne.symm hne) he.symm
theorem cb_types_keep {W w2 : World} {B A V S T R w h : Nat} {q : St} (H : Cb W B A V S T R w h q) (hk : ∀ k t cs, Blk W k t cs → t ≠ 68 → Blk w2 k t cs) : Cb w2 B A V S T R w h q := by
  obtain ⟨c1, h1, _⟩ := H.gv
  obtain ⟨c2, h2, _⟩ := H.gs
  obtain ⟨c3, h3, _⟩ := H.gt
  obtain ⟨c4, h4, _⟩ := H.gr
  exact H.keep ((hk _ _ _ H.obj (by decide)).trans H.obj.symm) ((hk _ _ _ h1 (by decide)).trans h1.symm) ((hk _ _ _ h2 (by decide)).trans h2.symm) ((hk _ _ _ h3 (by decide)).trans h3.symm) ((hk _ _ _ h4 (by decide)).trans h4.symm)
theorem bit_le60 {x : Nat} (h : x < 1152921504606846976) : Lib.bitLen x ≤ 60 := by
  unfold Lib.bitLen
  have h1 := Lib.bitLenAux_fuel 60 x (by omega) 64 (by decide)
  rw [h1]
  have : ∀ f y, Lib.bitLenAux f y ≤ f := fun f => by
    induction f with
    | zero => intro y; exact Nat.le_refl _
    | succ f ih =>
      intro y
      unfold Lib.bitLenAux
      have := ih (y / 2)
      split <;> omega
  exact this 60 x
theorem tabs_lt {W : World} (h : Cx.Tabs W) : 3 ≤ W.heap.size := by
  have := cell_lt (h.sgn 0 0 (by decide) (by decide)).1
  omega
theorem symbols_c0 (s : Option Addr) (l : List Int) (cp : Nat) (w h o : Int) (m : Mo) (W : World) (hf : ¬ fits w h) : Calls Tryd.prog 23 #[.slice s l.length cp, .int .i64 w, .int .i64 h, .int .i64 o, m.val] W (SGv W 2 []) := by
  have k := fun W => new_no w h hf W
  obtain ⟨mb, mr, ms, mc, my⟩ := m
  unfold Mo.val at *
  have HM := Lib.hid (below_alloc (Below.refl _ W) (.cells #[.bool mb, .bool mr, .bool ms, .bool mc, .bool my] 27))
  clear hf
  go_enter Tryd.func23, Tryd.ntmps23
  go_wp2_with (first | (go_at_call 30; (with_reducible refine (k _).mono ?_); rintro e wn ⟨rfl, rfl⟩))
  go_ret2
  exact ⟨_, rfl, SsAt.nil _ _, HM.out⟩
theorem symbols_c1 (s : Option Addr) (l : List Int) (cp : Nat) (w h : Nat) (o : Int) (m : Mo) (W : World) (hf : fits (w : Int) (h : Int)) (hl : l.length ≠ w * h) : Calls Tryd.prog 23 #[.slice s l.length cp, .int .i64 (w : Int), .int .i64 (h : Int), .int .i64 o, m.val] W (SGv W 4 []) := by
  have k := fun W => new_yes w h hf W
  obtain ⟨mb, mr, ms, mc, my⟩ := m
  unfold Mo.val at *
  have HM := Lib.hid (below_alloc (Below.refl _ W) (.cells #[.bool mb, .bool mr, .bool ms, .bool mc, .bool my] 27))
  have hwh : w * h ≤ 64 * 64 := Nat.mul_le_mul (by unfold fits at hf; omega) (by unfold fits at hf; omega)
  have wm : IntKind.i64.wrap ((w : Int) * (h : Int)) = ((w * h : Nat) : Int) := by rw [IntWalk.i64_left, ← Int.natCast_mul]; unfold wrap64; omega
  have hne : (((l.length : Nat) : Int) == ((w * h : Nat) : Int)) = false := by simp; omega
  have hne2 : (((l.length : Nat) : Int) != ((w * h : Nat) : Int)) = true := by simp; omega
  clear hf hwh hl
  generalize w * h = N at *
  go_enter Tryd.func23, Tryd.ntmps23
  go_wp2_with (first | (go_at_call 30; (with_reducible refine (k _).mono ?_); rintro e wn ⟨A, V, S, T, R, rfl, hC, hB⟩; have HB := Lib.hid (below_call HM.out hB); clear hC hB))
  go_ret2
  exact ⟨_, rfl, SsAt.nil _ _, HB.out⟩
theorem symbols_c2 (s : Option Addr) (l : List Int) (cp : Nat) (w h : Nat) (o : Int) (m : Mo) (W : World) (hf : fits (w : Int) (h : Int)) (hl : l.length = w * h) (ho : ¬ (0 ≤ o ∧ o ≤ 3)) : Calls Tryd.prog 23 #[.slice s l.length cp, .int .i64 (w : Int), .int .i64 (h : Int), .int .i64 o, m.val] W (SGv W 3 []) := by
  have k := fun W => new_yes w h hf W
  have kk := fun W => known_c o W
  rw [decide_eq_false ho] at kk
  obtain ⟨mb, mr, ms, mc, my⟩ := m
  unfold Mo.val at *
  have HM := Lib.hid (below_alloc (Below.refl _ W) (.cells #[.bool mb, .bool mr, .bool ms, .bool mc, .bool my] 27))
  have hwh : w * h ≤ 64 * 64 := Nat.mul_le_mul (by unfold fits at hf; omega) (by unfold fits at hf; omega)
  have wm : IntKind.i64.wrap ((w : Int) * (h : Int)) = ((l.length : Nat) : Int) := by rw [IntWalk.i64_left, ← Int.natCast_mul]; unfold wrap64; omega
  clear hf hwh hl ho
  generalize l.length = N at *
  go_enter Tryd.func23, Tryd.ntmps23
  go_wp2_with (first | (go_at_call 30; (with_reducible refine (k _).mono ?_); rintro e wn ⟨A, V, S, T, R, rfl, hC, hB⟩; have HB := Lib.hid (below_call HM.out hB); clear hC hB) | (go_at_call 31; (with_reducible refine (kk _).mono ?_); rintro e wn ⟨rfl, rfl⟩))
  go_ret2
  exact ⟨_, rfl, SsAt.nil _ _, HB.out⟩
set_option maxHeartbeats 8000000 in
theorem symbols_c3 (s : Option Addr) (l : List Int) (cp : Nat) (w h : Nat) (o : Int) (m : Mo) (W : World) (hf : fits (w : Int) (h : Int)) (hl : l.length = w * h) (ho : 0 ≤ o ∧ o ≤ 3) (hH : HoldsI W s l) (hT : Cx.Tabs W) (hr : ∀ v ∈ l, i64R v) (c : Int) (Ls : List (List Sy)) (hc1 : (∃ v ∈ l, ¬ okV v) → c = 2 ∧ Ls = []) (hc2 : (∀ v ∈ l, okV v) → c = 0 ∧ Ls = symL w h (plnN l) o m (setV w h l l.length) (3 * plnN l - 2)) :
    Calls Tryd.prog 23 #[.slice s l.length cp, .int .i64 (w : Int), .int .i64 (h : Int), .int .i64 o, m.val] W (SGv W c Ls) := by
  have k := fun W => new_yes w h hf W
  have kk := fun W => known_c o W
  rw [decide_eq_true ho] at kk
  obtain ⟨i0, hi, hz0, hz1, hz2⟩ := info2_parts infoSs
  obtain ⟨M, hM⟩ : ∃ M : Mo, M = m := ⟨_, rfl⟩
  have HC1 := Lib.hid hc1
  rw [← hM] at hc2
  have HMV := Lib.hid (show M.val = .agg #[.bool m.b, .bool m.r, .bool m.s, .bool m.c, .bool m.y] by rw [hM]; rfl)
  rw [← hM]
  obtain ⟨mb, mr, ms, mc, my⟩ := m
  rw [HMV.out]
  have hMm := below_alloc (Below.refl _ W) (.cells #[.bool mb, .bool mr, .bool ms, .bool mc, .bool my] 27)
  have HM := Lib.hid hMm
  have hwh : w * h ≤ 64 * 64 := Nat.mul_le_mul (by unfold fits at hf; omega) (by unfold fits at hf; omega)
  have wm : IntKind.i64.wrap ((w : Int) * (h : Int)) = ((l.length : Nat) : Int) := by rw [IntWalk.i64_left, ← Int.natCast_mul]; unfold wrap64; omega
  have hl4 : l.length ≤ 4096 := by omega
  have hw0 : ((w : Int) == 0) = false := by unfold fits at hf; simp; omega
  have HL4 := Lib.hid hl4
  have HHL := Lib.hid hl
  have HHH := Lib.hid hH
  have HT := Lib.hid hT
  have HR := Lib.hid hr
  have HF := Lib.hid hf
  have HO := Lib.hid ho
  have H3 := Lib.hid (tabs_lt hT)
  clear hf hwh ho hH hT hr hMm hl hM hl4 hc1
  generalize hN : l.length = N at *
  have HC2 := Lib.hid hc2
  clear hc2
  have HN := Lib.hid hN
  clear hN
  go_enter Tryd.func23, Tryd.ntmps23
  go_wp2_with (first | (go_at_call 30; (with_reducible refine (k _).mono ?_); rintro e wn ⟨A, V, S, T, R, rfl, hC, hB⟩; have HC := Lib.hid hC; have HB := Lib.hid (below_call HM.out hB); have MB := Lib.hid ((Blk.new W 27 #[.bool mb, .bool mr, .bool ms, .bool mc, .bool my]).below hB); clear hC hB) | (go_at_call 31; (with_reducible refine (kk _).mono ?_); rintro e wn ⟨rfl, rfl⟩))
  obtain ⟨B1, hB1⟩ : ∃ b, b = (W.alloc (.cells #[.bool mb, .bool mr, .bool ms, .bool mc, .bool my] 27)).heap.size := ⟨_, rfl⟩
  have HCB := Lib.hid (show Cb wn B1 A V S T R w h St.zero by rw [hB1]; exact HC.out)
  have HB1 := Lib.hid (show B1 = W.heap.size + 1 by rw [hB1, alloc_size])
  clear HC hB1 k kk
  go_loopw [45] (fun i wr => ∃ k : Nat, k ≤ N ∧ i = .int .i64 (k : Int) ∧ Hid (∀ j, j < k → ∀ v, l[j]? = some v → okV v) ∧ Hid (Cb wr B1 A V S T R w h (setV w h l k)) ∧ Hid (Below W.heap.size W wr) ∧ Hid (Blk wr W.heap.size 27 #[.bool mb, .bool mr, .bool ms, .bool mc, .bool my])) (fun i _ => (N - (intOf i).toNat))
  case atStart => exact ⟨0, by omega, rfl, fun j hj => by omega, HCB.out, HB.out, MB⟩
  case round =>
    obtain ⟨k, hk, rfl, hV, hC, hB, hMB⟩ := hrel
    by_cases hlt : k < N
    · have hlt2 : k < l.length := by have := HN.out; omega
      obtain ⟨b, off, rfl, hA⟩ := (HHH.out.below hB.out (Nat.le_refl _)).resolve_left (fun h => by rw [h] at hlt2; simp at hlt2)
      have c0 := hA k hlt2
      have hgd : l[k]?.getD 0 = l[k] := by rw [List.getElem?_eq_getElem hlt2]; rfl
      have hge : l[k]? = some l[k] := List.getElem?_eq_getElem hlt2
      have hmem := List.getElem_mem hlt2
      obtain ⟨v, hve⟩ : ∃ v, v = l[k] := ⟨_, rfl⟩
      rw [← hve] at c0 hgd hge hmem
      have hwn : ¬ w = 0 := by have := HF.out; unfold fits at this; omega
      have hwp : 0 < w := by have := HF.out; unfold fits at this; omega
      have hx1 := Nat.mod_lt k hwp
      have hy1 : k / w < h := Nat.div_lt_of_lt_mul (by have := HHL.out; omega)
      have m1 : ((k : Int) % (w : Int)) = ((k % w : Nat) : Int) := by rw [Int.natCast_emod]
      have m2 : ((k : Int) / (w : Int)) = ((k / w : Nat) : Int) := by rw [Int.natCast_ediv]
      have m3 : Int.tmod (k : Int) (w : Int) = ((k % w : Nat) : Int) := by rw [Int.tmod_eq_emod_of_nonneg (by omega), m1]
      have m4 : Int.tdiv (k : Int) (w : Int) = ((k / w : Nat) : Int) := by rw [Int.tdiv_eq_ediv_of_nonneg (by omega), m2]
      have hsv : setV w h l (k + 1) = setQ w h (setV w h l k) ((k % w : Nat) : Int) ((k / w : Nat) : Int) v := by show setQ _ _ _ _ _ _ = _; rw [hgd]
      obtain ⟨xn, hxn⟩ : ∃ x, x = k % w := ⟨_, rfl⟩
      obtain ⟨yn, hyn⟩ : ∃ x, x = k / w := ⟨_, rfl⟩
      rw [← hxn] at hx1 m1 m3 hsv
      rw [← hyn] at hy1 m2 m4 hsv
      clear hxn hyn
      have hin : inB w h (xn : Int) (yn : Int) := by unfold inB; omega
      have hyw : yn ≤ 64 := by have := HF.out; unfold fits at this; omega
      have m5 : IntKind.i64.wrap (yn : Int) = (yn : Int) := by rw [IntWalk.i64_left]; unfold wrap64; omega
      have ks := set_c (hC.out.below (Below.refl wr.heap.size wr).drew) (xn : Int) (yn : Int) v
      rw [← hsv] at ks
      have m6 : IntKind.i64.wrap ((k : Int) / (w : Int)) = (yn : Int) := by rw [m2, m5]
      have wk : IntKind.i64.wrap ((k : Int) + 1) = ((k + 1 : Nat) : Int) := by have := HL4.out; rw [IntWalk.i64_left]; unfold wrap64; omega
      have HLT := Lib.hid hlt
      have HGE := Lib.hid hge
      have HMEM := Lib.hid hmem
      have VB := Lib.hid (show ∀ j ∈ [V, S, T, R], B1 ≤ j by
        intro j hj
        have h1 := hC.out.geV
        have h2 := hC.out.geS
        have h3 := hC.out.geT
        have h4 := hC.out.geR
        simp at hj
        omega)
      have keepB : ∀ W', Kb [V, S, T, R] wr.drew W' → Below W.heap.size W W' ∧ Blk W' W.heap.size 27 #[.bool mb, .bool mr, .bool ms, .bool mc, .bool my] := fun W' K => by
        have K := (Kb.of_below [V, S, T, R] (Below.refl wr.heap.size wr).drew).trans K
        have hs := hB.out.size
        refine ⟨hB.out.trans ((K.below (fun j hj => by have := VB.out j hj; have := HB1.out; omega) hs)), (K.block _ hMB.out.lt fun hm => ?_).trans hMB.out⟩
        have := VB.out _ hm
        have := HB1.out
        omega
      by_cases hov : okV v
      · have e0 : setE w h (xn : Int) (yn : Int) v = 0 := by unfold setE; rw [if_pos ⟨hin, hov⟩]
        rw [e0] at ks
        have HOV := Lib.hid hov
        have KB := Lib.hid keepB
        clear e0 hin hgd hge hve hsv hov keepB hmem hA hx1 hy1 hyw
        go_wp2_with fail
        go_region_held3 (fun _ => True) (first | (with_reducible exact trivial) | fail) (first | (go_simp; go_at_call 32; (with_reducible refine ks.mono ?_); rintro e w5 ⟨rfl, hC5, hK5⟩; have C5 := Lib.hid hC5; have K5 := Lib.hid (KB.out _ hK5); clear hC5 hK5) | fail)
        all_goals
          go_wp2_with fail
          go_roundw
          case rel =>
            refine ⟨k + 1, HLT.out, by go_num, fun j hj u hu => ?_, C5, K5.out.1, K5.out.2⟩
            rcases Nat.lt_or_ge j k with h | h
            · exact hV.out j h u hu
            · obtain rfl : j = k := by omega
              rw [HGE.out] at hu
              cases hu
              exact HOV.out
          case measure => have := HLT.out; simp [intOf]; omega
      · have e0 : setE w h (xn : Int) (yn : Int) v = 2 := by unfold setE; rw [if_neg fun h => hov h.2]
        rw [e0] at ks
        have hex : ∃ u ∈ l, ¬ okV u := ⟨v, hmem, hov⟩
        have R1 := Lib.hid (HC1.out hex)
        have KB := Lib.hid keepB
        clear e0 hin hgd hge hve hsv hov keepB hmem hA hx1 hy1 hyw hex
        go_wp2_with fail
        go_region_held3 (fun _ => True) (first | (with_reducible exact trivial) | fail) (first | (go_simp; go_at_call 32; (with_reducible refine ks.mono ?_); rintro e w5 ⟨rfl, hC5, hK5⟩; have K5 := Lib.hid (KB.out _ hK5); clear hC5 hK5) | fail)
        all_goals
          go_wp2_with fail
          go_ret2
          obtain ⟨ec, eL⟩ := R1.out
          rw [ec, eL]
          exact ⟨_, rfl, SsAt.nil _ _, K5.out.1⟩
    · have hkN : k = N := by omega
      subst hkN
      have hall : ∀ v ∈ l, okV v := fun v hv => by
        obtain ⟨j, hj, e⟩ := List.mem_iff_getElem.1 hv
        exact hV.out j (by have := HN.out; omega) v (by rw [List.getElem?_eq_getElem hj, e])
      obtain ⟨hc0, hLs⟩ := HC2.out hall
      have HNk := HN.out
      have kp := planes_c s l cp wr (HHH.out.below hB.out (Nat.le_refl _)) HR.out (by have := HL4.out; omega)
      rw [HNk] at kp
      have hmx : mxN l < 1152921504606846976 := mxN_lt l _ (by decide) fun v hv => by have := hall v hv; unfold okV at this; omega
      have hpl : plnN l ≤ 60 := bit_le60 hmx
      have hok := setV_ok w h l hall k
      obtain ⟨pl, hple⟩ : ∃ p, p = plnN l := ⟨_, rfl⟩
      rw [← hple] at kp hpl hLs
      obtain ⟨q0, hq0⟩ : ∃ q, q = setV w h l k := ⟨_, rfl⟩
      rw [← hq0] at hC hok hLs
      obtain ⟨n, hn⟩ : ∃ n, n = 3 * pl - 2 := ⟨_, rfl⟩
      rw [← hn] at hLs
      have wp1 : IntKind.i64.wrap (3 * (pl : Int)) = 3 * (pl : Int) := by rw [IntWalk.i64_left]; unfold wrap64; omega
      have wp2 : IntKind.i64.wrap (3 * (pl : Int) - 2) = 3 * (pl : Int) - 2 := by rw [IntWalk.i64_left]; unfold wrap64; omega
      have HPL := Lib.hid hpl
      have HNN := Lib.hid hn
      have HC0 := Lib.hid hc0
      have HLS := Lib.hid hLs
      have HOK := Lib.hid hok
      clear hall hc0 hLs hmx hpl hok hple hq0 hn hV hk HNk
      go_wp2_with (first | (go_at_call 25; (with_reducible refine kp.mono ?_); rintro e wn ⟨rfl, rfl⟩))
      clear kp
      obtain ⟨Wo, rfl⟩ : ∃ Wo, Wo = wr := ⟨_, rfl⟩
      go_loopw [18, 68] (fun z i wr => ∃ (k : Nat) (sv : Value), k ≤ n ∧ i = .int .i64 (k : Int) ∧ z = sv ∧ Hid (SsAt W wr sv (symL w h pl o M q0 k)) ∧ Hid (Cb wr B1 A V S T R w h (blkP w h pl o M q0 k)) ∧ Hid (Below W.heap.size W wr) ∧ Hid (Blk wr W.heap.size 27 #[.bool mb, .bool mr, .bool ms, .bool mc, .bool my])) (fun _ i _ => (n - (intOf i).toNat))
      case atStart => exact ⟨0, _, by omega, rfl, rfl, SsAt.nil _ _, hC.out, hB.out, hMB⟩
      case round =>
        obtain ⟨j, sv, hj, rfl, hz, hS, hC, hB, hMB⟩ := hrel
        obtain ⟨s9, m9, rfl⟩ : ∃ s m, sv = .slice s (symL w h pl o M q0 j).length m := hS.out.ex.elim fun _ z => own_slice z.2.1
        subst hz
        by_cases hlt : (j : Int) < 3 * (pl : Int) - 2
        · have hjn : j < n := by have := HNN.out; omega
          have hrE : runE (j : Int) (pl : Int) o = 0 := by
            have := HPL.out
            have := HO.out
            unfold runE
            rw [if_neg (by omega), if_neg (by omega)]
          have T1 := HT.out.below hB.out
          have kr := run_ok hC.out T1 (by rw [blkP_v]; exact HOK.out) (by have := HB1.out; have := H3.out; omega) (j : Int) (pl : Int) o M hrE
          rw [HMV.out] at kr
          have hbk : (runQ w h (j : Int) (pl : Int) o M (blkP w h pl o M q0 j)).1 = blkP w h pl o M q0 (j + 1) := rfl
          have hsy : (runQ w h (j : Int) (pl : Int) o M (blkP w h pl o M q0 j)).2 = symP w h pl o M q0 j := rfl
          rw [hbk, hsy] at kr
          have hsl := symL_succ w h pl o M q0 j
          have hln : (symL w h pl o M q0 j).length = j := by unfold symL; simp
          generalize hL1 : symL w h pl o M q0 j = Ls1 at *
          obtain ⟨L1, hLL⟩ : ∃ x, x = symP w h pl o M q0 j := ⟨_, rfl⟩
          rw [← hLL] at kr hsl
          have hct := cb_types hC.out
          have hVB : ∀ i ∈ [V, S, T, R], B1 ≤ i := by
            intro i hi
            have h1 := hC.out.geV
            have h2 := hC.out.geS
            have h3 := hC.out.geT
            have h4 := hC.out.geR
            simp at hi
            omega
          have keepR : ∀ W', Kb [V, S, T, R] wr W' → Below W.heap.size W W' ∧ Blk W' W.heap.size 27 #[.bool mb, .bool mr, .bool ms, .bool mc, .bool my] ∧ SsAt W W' (.slice s9 Ls1.length m9) Ls1 := fun W' K => by
            have hs := hB.out.size
            refine ⟨hB.out.trans (K.below (fun i hi => by have := hVB i hi; have := HB1.out; omega) hs), (K.block _ hMB.out.lt fun hm => ?_).trans hMB.out, hS.out.kb K hct⟩
            have := hVB _ hm
            have := HB1.out
            omega
          have wj : IntKind.i64.wrap ((j : Int) + 1) = ((j + 1 : Nat) : Int) := by have := HPL.out; have := HNN.out; rw [IntWalk.i64_left]; unfold wrap64; omega
          obtain ⟨m0, m1, m2, m3, m4⟩ := md hMB.out
          have hszr := hB.out.size
          have KR := Lib.hid keepR
          have HSL := Lib.hid hsl
          have HLN := Lib.hid hln
          have HJN := Lib.hid hjn
          have HSZ := Lib.hid hszr
          have hj178 : j ≤ 178 := by have := HPL.out; have := HNN.out; omega
          have HJ178 := Lib.hid hj178
          clear keepR hVB hct hL1 hLL hsl hln hrE T1 hbk hsy hS hB hMB hC hjn hszr hj178
          go_wp2_with (first | (go_at_call 33; (with_reducible refine kr.mono ?_); rintro e w5 ⟨v, rfl, hC5, hK5, hO5⟩; obtain ⟨s5, c5, rfl⟩ := own2_slice hO5; have C5 := Lib.hid hC5; have K5 := Lib.hid (KR.out _ hK5); have SZ5 := Lib.hid hK5.size; have O5 := Lib.hid (own2_lower hO5 HSZ.out); obtain ⟨vs, v1, v2, v3⟩ := K5.out.2.2.ex; have V1 := Lib.hid v1; have V2 := Lib.hid v2; have V3 := Lib.hid v3; clear hC5 hK5 hO5 v1 v2 v3) | (at_builtin; refine wpList_append_own_at _ rfl _ _ 54 rfl W.heap.size 68 i0 (.slice none 0 0) 1 24 Tryd.underlying54 hi hz0 hz1 hz2 rfl (by decide) _ Ls1.length _ rfl (own2_below V2.out ((Below.refl _ _).alloc (Nat.le_refl _) _)) ⟨w5.heap.size, 0, none⟩ 1 1 [.slice s5 L1.length c5] rfl rfl (one_new8 _ _ _) (by intro u hu; simp at hu; subst hu; rfl) (by have := HLN.out; have := HJ178.out; unfold maxLen; omega) (by have := HLN.out; have := HJ178.out; omega) (by have := HSZ.out; have := SZ5.out; simp; omega) ?_))
          intro v' w6 hown hgrow _ _
          have G6 := Lib.hid (SsAt.grow V1.out V2.out V3.out O5.out hown hgrow)
          have N6 := Lib.hid (grown_keep V2.out hgrow)
          have B6 := Lib.hid ((K5.out.1.alloc K5.out.1.size (.cells #[.slice s5 L1.length c5] 68)).grown hgrow (by have := HSZ.out; have := SZ5.out; rw [alloc_size]; omega) fun i hi => (own2_lt V2.out hi).1)
          clear hown hgrow
          go_wp2_with fail
          go_roundw
          case rel =>
            refine ⟨j + 1, v', HJN.out, by go_num, rfl, ?_, cb_types_keep C5.out N6.out, B6, N6.out _ _ _ K5.out.2.1 (by decide)⟩
            rw [HSL.out]
            exact G6.out
          case measure => have := HJN.out; simp [intOf]; omega
        · have hjn : j = n := by have := HNN.out; omega
          subst hjn
          go_wp2_with fail
          go_ret2
          rw [HC0.out, HLS.out]
          exact ⟨_, rfl, hS.out, hB.out⟩
end Go.Proofs.YtklchodbnjebnaaDoor
