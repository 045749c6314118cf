/-
  Layer 15: two blocks with one state: Run of both; same.
-/
import Derived.Test.YtbhjapgioaiocaaDoorXj
import Derived.Test.YtbhjapgioaiocaaDoorMb
set_option maxRecDepth 100000
namespace Go.Proofs.YtbhjapgioaiocaaDoor
open Go.RowKit

/-- A block of the program and one of the reference. -/
structure Two (W0 W : World) (B A V S T R A2 C w h : Nat) (q q2 : St) : Prop where
  b : Cb W B A V S T R w h q
  r : Rb W B A2 C w h q2
  hB : W0.heap.size ≤ B
  below : Below W0.heap.size W0 W
section
variable {W0 W W' : World} {B A V S T R A2 C w h : Nat} {q q2 q3 : St}
theorem Two.call (H : Two W0 W B A V S T R A2 C w h q q2) (hb : Below W.heap.size W W') : Two W0 W' B A V S T R A2 C w h q q2 := ⟨H.b.below hb, H.r.below hb, H.hB, below_call H.below hb⟩
theorem Two.cb (H : Two W0 W B A V S T R A2 C w h q q2) (hc : Cb W' B A V S T R w h q3) (K : Kb [V, S, T, R] W W') : Two W0 W' B A V S T R A2 C w h q3 q2 := by
  obtain ⟨c1, h1, _⟩ := H.b.gv
  obtain ⟨c2, h2, _⟩ := H.b.gs
  obtain ⟨c3, h3, _⟩ := H.b.gt
  obtain ⟨c4, h4, _⟩ := H.b.gr
  obtain ⟨c5, h5, _⟩ := H.r.grid
  have e1 : A2 ∉ [V, S, T, R] := fun hm => by
    simp at hm
    rcases hm with e | e | e | e
    · exact (H.r.obj.ne h1 (by decide)) e
    · exact (H.r.obj.ne h2 (by decide)) e
    · exact (H.r.obj.ne h3 (by decide)) e
    · exact (H.r.obj.ne h4 (by decide)) e
  have e2 : C ∉ [V, S, T, R] := fun hm => by
    simp at hm
    rcases hm with e | e | e | e
    · exact (h5.ne h1 (by decide)) e
    · exact (h5.ne h2 (by decide)) e
    · exact (h5.ne h3 (by decide)) e
    · exact (h5.ne h4 (by decide)) e
  refine ⟨hc, H.r.keep (K.block _ H.r.obj.lt e1) (K.block _ H.r.ltC e2), H.hB, H.below.trans (K.below (fun j hj => ?_) H.below.size)⟩
  have f1 := H.b.geV
  have f2 := H.b.geS
  have f3 := H.b.geT
  have f4 := H.b.geR
  have f5 := H.hB
  simp at hj
  omega
theorem Two.rb (H : Two W0 W B A V S T R A2 C w h q q2) (hc : Rb W' B A2 C w h q3) (K : Kb [C] W W') : Two W0 W' B A V S T R A2 C w h q q3 := by
  obtain ⟨c1, h1, _⟩ := H.b.gv
  obtain ⟨c2, h2, _⟩ := H.b.gs
  obtain ⟨c3, h3, _⟩ := H.b.gt
  obtain ⟨c4, h4, _⟩ := H.b.gr
  obtain ⟨c5, h5, _⟩ := H.r.grid
  have kp : ∀ {g : Nat} {t : TypeId} {cs : Array Value}, Blk W g t cs → t ≠ 110 → W'.heap[g]? = W.heap[g]? := fun hb hne => K.block _ hb.lt fun hm => by simp at hm; exact (hb.ne h5 hne) hm
  refine ⟨H.b.keep (kp H.b.obj (by decide)) (kp h1 (by decide)) (kp h2 (by decide)) (kp h3 (by decide)) (kp h4 (by decide)), hc, H.hB, H.below.trans (K.below (fun j hj => ?_) H.below.size)⟩
  have f1 := H.r.geC
  have f5 := H.hB
  simp at hj
  omega
end
def rnE (w h : Nat) (pass planes o : Int) (m : Mo) (q : St) : Es := if runE pass planes o = 0 then runQ w h pass planes o m q else (q, [])
theorem erun_err {W : World} {B A V S T R w h : Nat} {q : St} (H : Cb W B A V S T R w h q) (pass planes o : Int) (m : Mo) (c : Int) (hc : runE pass planes o = c) (hc0 : c ≠ 0) : Calls Tryd.prog 18 #[.pointer (some ⟨A, 0, none⟩), .int .i64 pass, .int .i64 planes, .int .i64 o, m.val] W fun e w' => e = .returned (.tuple #[.slice none 0 0, .int .i64 c]) ∧ Below W.heap.size W w' := by
  have hM := below_alloc (Below.refl _ W) (.cells #[.bool m.b, .bool m.r, .bool m.s, .bool m.c, .bool m.y] 26)
  have kc := check_c (H.below hM) pass planes o
  rw [hc] at kc
  have hne : (c == 0) = false := by simpa using hc0
  have HM := Lib.hid hM
  unfold Mo.val
  clear hc hM H
  go_enter Tryd.func18, Tryd.ntmps18
  go_wp2_with (first | (go_at_call 50; (with_reducible refine kc.mono ?_); rintro e wa ⟨rfl, hb⟩; have HB := Lib.hid (below_call HM.out hb); clear hb))
  go_ret2
  exact ⟨rfl, HB.out⟩
theorem erun_c {W : World} {B A V S T R w h : Nat} {q : St} (H : Cb W B A V S T R w h q) (hT : Cx.Tabs W) (hok : ∀ x y, okV (q.v x y)) (hB : 3 ≤ B) (pass planes o : Int) (m : Mo) :
    Calls Tryd.prog 18 #[.pointer (some ⟨A, 0, none⟩), .int .i64 pass, .int .i64 planes, .int .i64 o, m.val] W fun E W' => ∃ v, E = .returned (.tuple #[v, .int .i64 (runE pass planes o)]) ∧ Cb W' B A V S T R w h (rnE w h pass planes o m q).1 ∧ Kb [V, S, T, R] W W' ∧ W'.ownsRow W.heap.size 52 2 v (rnE w h pass planes o m q).2.length (cellsP (rnE w h pass planes o m q).2) := by
  unfold rnE
  by_cases hc : runE pass planes o = 0
  · rw [if_pos hc, hc]
    exact run_ok H hT hok hB pass planes o m hc
  · rw [if_neg hc]
    refine (erun_err H pass planes o m _ rfl hc).mono ?_
    rintro e w' ⟨rfl, hb⟩
    exact ⟨_, rfl, H.below hb, Kb.of_below _ hb, World.ownsRow_nil _ _ _ _⟩
theorem xrun2_c {W : World} {B A C w h : Nat} {q : St} (H : Rb W B A C w h q) (hok : ∀ x y, okV (q.v x y)) (pass planes o : Int) (m : Mo) :
    Calls Tryd.prog 19 #[.pointer (some ⟨A, 0, none⟩), .int .i64 pass, .int .i64 planes, .int .i64 o, m.val] W fun E W' => ∃ v, E = .returned (.tuple #[v, .int .i64 (runE pass planes o)]) ∧ Rb W' B A C w h (rnE w h pass planes o m q).1 ∧ Kb [C] W W' ∧ W'.ownsRow W.heap.size 52 2 v (rnE w h pass planes o m q).2.length (cellsP (rnE w h pass planes o m q).2) := by
  unfold rnE
  by_cases hc : runE pass planes o = 0
  · rw [if_pos hc, hc]
    exact xrun_ok H hok pass planes o m hc
  · rw [if_neg hc]
    refine (xrun_err H pass planes o m _ rfl hc).mono ?_
    rintro e w' ⟨rfl, hb⟩
    exact ⟨_, rfl, H.below hb, Kb.of_below _ hb, World.ownsRow_nil _ _ _ _⟩
theorem rnE_v (w h : Nat) (pass planes o : Int) (m : Mo) (q : St) : (rnE w h pass planes o m q).1.v = q.v := by
  unfold rnE
  split
  · exact runQ_v _ _ _ _ _ _ _
  · rfl
theorem rnE_len (w h : Nat) (pass planes o : Int) (m : Mo) (q : St) (hw : w ≤ 64) (hh : h ≤ 64) : (rnE w h pass planes o m q).2.length ≤ 20000 := by
  unfold rnE
  split
  · have := passS_len (ppR w h pass planes o m) (kndP pass) m.y (q, []) hw hh
    simpa [runQ] using this
  · simp
set_option maxHeartbeats 4000000 in
theorem same15_c {W0 W : World} {B A V S T R A2 C w h : Nat} {q : St} (H : Two W0 W B A V S T R A2 C w h q q) : Calls Tryd.prog 21 #[.pointer (some ⟨A, 0, none⟩), .pointer (some ⟨A2, 0, none⟩), .int .i64 (w : Int), .int .i64 (h : Int)] W fun e w' => e = .returned (.bool true) ∧ Below W.heap.size W w' := by
  have hf := H.b.fit
  have hwh : w ≤ 64 ∧ h ≤ 64 := by unfold fits at hf; omega
  obtain ⟨hw, hh⟩ := hwh
  have HH := Lib.hid H
  have B0 := Lib.hid (Below.refl W.heap.size W)
  have HW := Lib.hid hw
  have HHH := Lib.hid hh
  clear H hf hw hh
  go_enter Tryd.func21, Tryd.ntmps21
  go_wp2_with fail
  go_loopw [9] (fun i wr => ∃ Y : Nat, Y ≤ h ∧ i = .int .i64 (Y : Int) ∧ Hid (Below W.heap.size W wr)) (fun i _ => h - (intOf i).toNat)
  case atStart => exact ⟨0, Nat.zero_le _, rfl, B0⟩
  case round =>
    obtain ⟨Y, hY, rfl, hB⟩ := hrel
    by_cases hlt : (Y : Int) < (h : Int)
    · have HLT := Lib.hid hlt
      have wY : IntKind.i64.wrap ((Y : Int) + 1) = ((Y + 1 : Nat) : Int) := by have := HHH.out; rw [IntWalk.i64_left]; unfold wrap64; omega
      go_wp2_with fail
      obtain ⟨Wo, hWo⟩ : ∃ Wo, Wo = wr := ⟨_, rfl⟩
      clear hWo
      go_loopw [10] (fun i wr => ∃ X : Nat, X ≤ w ∧ i = .int .i64 (X : Int) ∧ Hid (Below W.heap.size W wr)) (fun i _ => w - (intOf i).toNat)
      case atStart => exact ⟨0, Nat.zero_le _, rfl, hB⟩
      case round =>
        obtain ⟨X, hX, rfl, hB⟩ := hrel
        by_cases hx : (X : Int) < (w : Int)
        · have HX := Lib.hid hx
          have wX : IntKind.i64.wrap ((X : Int) + 1) = ((X + 1 : Nat) : Int) := by have := HW.out; rw [IntWalk.i64_left]; unfold wrap64; omega
          have H1 := Lib.hid (HH.out.call hB.out)
          have k1 := value_c H1.out.b (X : Int) (Y : Int)
          have k2 := rvalue_c H1.out.r (X : Int) (Y : Int)
          have k3 := fun W' (K : Two W0 W' B A V S T R A2 C w h q q) => significant_c K.b (X : Int) (Y : Int)
          have k4 := fun W' (K : Two W0 W' B A V S T R A2 C w h q q) => rsignificant_c K.r (X : Int) (Y : Int)
          have k5 := fun W' (K : Two W0 W' B A V S T R A2 C w h q q) => touched_c K.b (X : Int) (Y : Int)
          have k6 := fun W' (K : Two W0 W' B A V S T R A2 C w h q q) => rtouched_c K.r (X : Int) (Y : Int)
          have k7 := fun W' (K : Two W0 W' B A V S T R A2 C w h q q) => refined_c K.b (X : Int) (Y : Int)
          have k8 := fun W' (K : Two W0 W' B A V S T R A2 C w h q q) => rrefined_c K.r (X : Int) (Y : Int)
          generalize q.v (X : Int) (Y : Int) = v at *
          generalize q.s (X : Int) (Y : Int) = s at *
          generalize q.t (X : Int) (Y : Int) = t at *
          generalize q.r (X : Int) (Y : Int) = r at *
          have ev : (v == v) = true := by simp
          have es : (s == s) = true := by simp
          have et : (t == t) = true := by simp
          have er : (r == r) = true := by simp
          go_wp2_with (first | (go_at_call 62; (with_reducible refine k1.mono ?_); rintro e wn ⟨rfl, rfl⟩) | (go_at_call 63; (with_reducible refine k2.mono ?_); rintro e wa ⟨rfl, hb⟩; have H2 := Lib.hid (H1.out.call hb); have B2 := Lib.hid (below_call hB.out hb); have k3 := k3 _ H2.out; have k4 := k4 _ H2.out; clear hb) | (go_at_call 64; (with_reducible refine k3.mono ?_); rintro e wn ⟨rfl, rfl⟩) | (go_at_call 65; (with_reducible refine k4.mono ?_); rintro e wb ⟨rfl, hb⟩; have H3 := Lib.hid (H2.out.call hb); have B3 := Lib.hid (below_call B2.out hb); have k5 := k5 _ H3.out; have k6 := k6 _ H3.out; clear hb) | (go_at_call 66; (with_reducible refine k5.mono ?_); rintro e wn ⟨rfl, rfl⟩) | (go_at_call 67; (with_reducible refine k6.mono ?_); rintro e wc ⟨rfl, hb⟩; have H4 := Lib.hid (H3.out.call hb); have B4 := Lib.hid (below_call B3.out hb); have k7 := k7 _ H4.out; have k8 := k8 _ H4.out; clear hb) | (go_at_call 68; (with_reducible refine k7.mono ?_); rintro e wn ⟨rfl, rfl⟩) | (go_at_call 69; (with_reducible refine k8.mono ?_); rintro e wd ⟨rfl, hb⟩; have B5 := Lib.hid (below_call B4.out hb); clear hb))
          go_roundw
          case rel => exact ⟨X + 1, by have := HX.out; omega, by go_num, B5⟩
          case measure => have := HX.out; simp [intOf]; omega
        · go_wp2_with fail
          go_roundw
          case rel => exact ⟨Y + 1, by have := HLT.out; omega, by go_num, hB⟩
          case measure => have := HLT.out; simp [intOf]; omega
    · go_wp2_with fail
      go_ret
      exact ⟨rfl, hB.out⟩
end Go.Proofs.YtbhjapgioaiocaaDoor
