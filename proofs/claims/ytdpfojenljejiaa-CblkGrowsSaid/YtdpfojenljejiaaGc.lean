/-
  Layer 14: played: both blocks after a list of calls; small.
-/
import Derived.Test.YtdpfojenljejiaaGa
set_option maxRecDepth 100000
namespace Go.Proofs.Ytdpfojenljejiaa
open Go.RowKit

def playQ (w h : Nat) (l : List OpV) (k : Nat) : St := (l.take k).foldl (doQ w h) St.zero
theorem playQ_zero (w h : Nat) (l : List OpV) : playQ w h l 0 = St.zero := rfl
theorem playQ_succ (w h : Nat) (l : List OpV) (k : Nat) (hk : k < l.length) : playQ w h l (k + 1) = doQ w h (playQ w h l k) l[k] := by
  unfold playQ
  rw [List.take_succ_eq_append_getElem hk, List.foldl_append]
  rfl
theorem OpAt.below {W X : World} {b off : Nat} {o : OpV} (h : OpAt W b off o) (hb : Below W.heap.size W X) : OpAt X b off o := by
  have f : ∀ {j : Nat} {v : Value}, W.cell? ⟨b, j, none⟩ = some v → X.cell? ⟨b, j, none⟩ = some v := fun {j v} hc => (hb.cell (p := ⟨b, j, none⟩) (cell_lt hc)).trans hc
  exact ⟨f h.1, f h.2.1, f h.2.2.1, f h.2.2.2⟩
/-- Both blocks in one world. -/
structure Both (W : World) (B A V S T R A2 C w h : Nat) (q : St) : Prop where
  cb : Cb W B A V S T R w h q
  rb : Rb W B A2 C w h q
theorem Both.below {W W' : World} {B A V S T R A2 C w h : Nat} {q : St} (H : Both W B A V S T R A2 C w h q) (hb : Below W.heap.size W W') : Both W' B A V S T R A2 C w h q := ⟨H.cb.below hb, H.rb.below hb⟩
set_option maxHeartbeats 8000000 in
theorem played_c (w h : Nat) (hf : fits (w : Int) (h : Int)) (l : List OpV) (s : Option Addr) (m : Nat) (W : World) (HO : HoldsO W s l) (hl : l.length ≤ 1000) :
    Calls Try.prog 19 #[.int .i64 (w : Int), .int .i64 (h : Int), .slice s l.length m] W fun e w' => ∃ A V S T R A2 C, e = .returned (.tuple #[.pointer (some ⟨A, 0, none⟩), .pointer (some ⟨A2, 0, none⟩)]) ∧ Both w' W.heap.size A V S T R A2 C w h (playQ w h l l.length) ∧ Below W.heap.size W w' := by
  have n1 := new_yes w h hf W
  have n2 := newR_yes w h hf
  have HOO := Lib.hid HO
  clear HO hf
  go_enter Try.func19, Try.ntmps19
  go_wp2_with fail
  refine n1.mono ?_
  rintro e w1 ⟨A, V, S, T, R, rfl, hC, hB⟩
  have C1 := Lib.hid hC
  have B1 := Lib.hid hB
  clear hC hB n1
  go_wp2_with fail
  refine (n2 _).mono ?_
  rintro e w2 ⟨A2, C, rfl, hC, hB⟩
  have BB : Hid (Both w2 W.heap.size A V S T R A2 C w h (playQ w h l 0)) := ⟨C1.out.below hB, hC.lower B1.out.size⟩
  have B2 := Lib.hid (below_call B1.out hB)
  clear hC hB n2 C1 B1
  go_wp2_with fail
  go_loopw [12] (fun i wr => ∃ k : Nat, k ≤ l.length ∧ i = .int .i64 (k : Int) ∧ Hid (Both wr W.heap.size A V S T R A2 C w h (playQ w h l k) ∧ Below W.heap.size W wr)) (fun i _ => l.length - (intOf i).toNat)
  case atStart => exact ⟨0, Nat.zero_le _, rfl, BB.out, B2.out⟩
  case round =>
    obtain ⟨k, hk, rfl, hT⟩ := hrel
    by_cases hlt : k < l.length
    · obtain ⟨g, off, rfl, oo⟩ := HOO.out.at hlt
      have d1 := do2_c hT.out.1.cb hT.out.1.rb l[k] hT.out.2.size
      have hq := playQ_succ w h l k hlt
      generalize l[k] = o at *
      obtain ⟨o0, o1, o2, o3⟩ := oo.below hT.out.2
      have OO := Lib.hid oo
      clear oo
      have HQ := Lib.hid hq
      clear hq
      unfold OpV.val at d1
      go_wp2_with fail
      refine d1.mono ?_
      rintro e w3 ⟨rfl, hC, hR, hB⟩
      have C3 := Lib.hid hC
      have R3 := Lib.hid hR
      have B3 := Lib.hid (hT.out.2.trans hB)
      have d2 := want2_c C3.out R3.out o B3.out.size
      obtain ⟨p0, p1, p2, p3⟩ := OO.out.below B3.out
      unfold OpV.val at d2
      clear hC hR hB d1 o0 o1 o2 o3
      go_wp2_with fail
      refine d2.mono ?_
      rintro e w4 ⟨rfl, hC, hR, hB⟩
      have F4 : Hid (Both w4 W.heap.size A V S T R A2 C w h (playQ w h l (k + 1)) ∧ Below W.heap.size W w4) := by
        rw [HQ.out]; exact ⟨⟨hC, hR⟩, B3.out.trans hB⟩
      clear hC hR hB d2 p0 p1 p2 p3
      go_wp2_with fail
      go_roundw
      case rel => exact ⟨k + 1, by omega, by go_num, F4⟩
      case measure => simp [intOf]; omega
    · obtain rfl : k = l.length := by omega
      go_wp2_with fail
      go_ret2
      exact ⟨A, V, S, T, R, A2, C, rfl, hT.out.1, hT.out.2⟩
theorem small_c (w h : Int) (s : Option Addr) (n m : Nat) (W : World) : Calls Try.prog 18 #[.int .i64 w, .int .i64 h, .slice s n m] W fun e w' => e = .returned (.bool (decide (1 ≤ w ∧ w ≤ 12 ∧ 1 ≤ h ∧ h ≤ 12 ∧ n ≤ 100))) ∧ W = w' := by
  by_cases hs : 1 ≤ w ∧ w ≤ 12 ∧ 1 ≤ h ∧ h ≤ 12 ∧ n ≤ 100
  · rw [decide_eq_true hs]
    obtain ⟨h1, h2, h3, h4, h5⟩ := hs
    have h6 : (n : Int) ≤ 100 := by omega
    clear h5
    go_enter Try.func18, Try.ntmps18
    go_wp2_with fail
    go_ret
    exact ⟨by first | rfl | (simp; omega), rfl⟩
  · rw [decide_eq_false hs]
    have hc : ¬ 1 ≤ w ∨ (1 ≤ w ∧ ¬ w ≤ 12) ∨ (1 ≤ w ∧ w ≤ 12 ∧ ¬ 1 ≤ h) ∨ (1 ≤ w ∧ w ≤ 12 ∧ 1 ≤ h ∧ ¬ h ≤ 12) ∨ (1 ≤ w ∧ w ≤ 12 ∧ 1 ≤ h ∧ h ≤ 12 ∧ ¬ (n : Int) ≤ 100) := by omega
    clear hs
    rcases hc with h1 | ⟨h1, h2⟩ | ⟨h1, h2, h3⟩ | ⟨h1, h2, h3, h4⟩ | ⟨h1, h2, h3, h4, h5⟩ <;>
     (go_enter Try.func18, Try.ntmps18
      go_wp2_with fail
      go_ret
      exact ⟨by first | rfl | (simp; omega), rfl⟩)
end Go.Proofs.Ytdpfojenljejiaa
