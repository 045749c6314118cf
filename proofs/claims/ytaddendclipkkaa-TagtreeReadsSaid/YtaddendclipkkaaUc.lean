/-
  Layer 10: the reference's path and minima.
-/
import Derived.Test.YtaddendclipkkaaUb
import Derived.Test.YtaddendclipkkaaTk
import Derived.Laws.AppendOwn
import Derived.Maps.AppendAt
import Derived.BigRegion
set_option maxRecDepth 100000
namespace Go.Proofs.Ytaddendclipkkaa
open Go.RowKit

/-- The indices of the nodes from level k - 1 down to the leaf. -/
def pthL (w h x y : Nat) : Nat → List Int
  | 0 => []
  | k + 1 => ((ix w h k (x / 2 ^ k) (y / 2 ^ k) : Nat) : Int) :: pthL w h x y k
theorem pthL_len (w h x y : Nat) : ∀ k, (pthL w h x y k).length = k
  | 0 => rfl
  | k + 1 => by unfold pthL; simp [pthL_len w h x y k]
theorem pthL_at (w h x y : Nat) : ∀ k j (hj : j < (pthL w h x y k).length), (pthL w h x y k)[j] = ((ix w h (k - 1 - j) (x / 2 ^ (k - 1 - j)) (y / 2 ^ (k - 1 - j)) : Nat) : Int)
  | 0, j, hj => by simp [pthL] at hj
  | k + 1, 0, hj => by simp [pthL]
  | k + 1, j + 1, hj => by
    have h2 : j < (pthL w h x y k).length := by simp [pthL] at hj; exact hj
    have := pthL_at w h x y k j h2
    simp only [pthL, List.getElem_cons_succ]
    rw [this]
    have e : k + 1 - 1 - (j + 1) = k - 1 - j := by omega
    rw [e]
/-- A list of integers behind a slice. -/
def GivesP (l : List Int) (w : World) (e : Ending) (w' : World) : Prop := ∃ g m, e = .returned (.slice (some ⟨g, 0, none⟩) l.length m) ∧ HoldsI w' (some ⟨g, 0, none⟩) l ∧ Below w.heap.size w w' ∧ w.heap.size ≤ g ∧ g < w'.heap.size
/-- What path returns. -/
theorem own_ends {W w' : World} {v : Value} {k : Nat} {l : List Int} (h : w'.ownsRow W.heap.size 3 1 v k (l.map (Value.int .i64)) ∧ Below W.heap.size W w') (hk : 1 ≤ k := by omega) : GivesP l W (.returned v) w' := by
  obtain ⟨⟨h1, h2⟩, hb⟩ := h
  have hl : l.length = k := by simpa using h1
  rcases h2 with ⟨rfl, h0⟩ | ⟨g, cap, cur, rfl, h3, h4, h5, h6, h7, h8⟩
  · omega
  · subst hl
    refine ⟨g, cap, rfl, .inr ⟨g, 0, rfl, fun j hj => ?_⟩, hb, h3, Blk.lt (t := 3) h4⟩
    have e : (l.map (Value.int .i64))[j]? = some (.int .i64 l[j]) := by simp [hj]
    rw [← h8, List.getElem?_take_of_lt (by omega), Array.getElem?_toList] at e
    rw [(show Blk w' g 3 cur from h4).cell, Nat.zero_add]
    exact e
theorem mul1 {a b : Nat} (ha : 1 ≤ a) (hb : 1 ≤ b) (h : ¬ (a = 1 ∧ b = 1)) : 2 ≤ a * b := by
  by_cases h1 : a = 1
  · subst h1; omega
  · exact Nat.le_trans (by omega : 2 ≤ a * 1) (Nat.mul_le_mul_left a hb)
set_option maxHeartbeats 4000000
theorem path_c {W : World} {B b g w h D : Nat} {u : Int} {Q : Nat → Nat → Nat → Nd} (H : Ur W B b g w h D u Q) (x y : Nat) (hx : x < w) (hy : y < h) : Calls Try.prog 67 #[.pointer (some ⟨b, 0, none⟩), .int .i64 (x : Int), .int .i64 (y : Int)] W (GivesP (pthL w h x y D) W) := by
  obtain ⟨i0, hi, hz0, hz1, hz2⟩ := info_parts infoI
  obtain ⟨c0, c1, c2, _⟩ := H.cells
  have HH := Lib.hid H
  have hd := H.dd
  have HD := Lib.hid hd
  have HXY := Lib.hid (And.intro hx hy)
  have MORE := Lib.hid (fun k (hk : k + 1 < D) => dep_more (k := k) H.w1 H.h1 H.ws H.hs (by rw [← H.d]; exact hk))
  have HB : Hid (1 ≤ w ∧ 1 ≤ h ∧ w * h ≤ 65536 ∧ w ≤ 65536 ∧ h ≤ 65536) := Lib.hid ⟨H.w1, H.h1, H.sz, H.ws, H.hs⟩
  have HBS := Lib.hid (fun k (hk : k ≤ 17) => Nat.le_trans (bs_le H.w1 H.h1 H.sz k) (Nat.mul_le_mul_right _ hk))
  clear H hd hx hy
  go_enter Try.func67, Try.ntmps67
  go_upto_region 2 with fail
  go_quiet (fail)
  go_wp2_with fail
  have KQ : Hid (Below W.heap.size W (W.drewN nq)) := Lib.hid (drewN_below _ nq)
  generalize W.drewN nq = W1 at *
  clear c0 c1 c2
  go_loopw [1, 2, 7, 8, 9, 10] (fun x' y' l a c z wr => ∃ k : Nat, k < D ∧ x' = .int .i64 ((x / 2 ^ k : Nat) : Int) ∧ y' = .int .i64 ((y / 2 ^ k : Nat) : Int) ∧ a = .int .i64 ((dm w k : Nat) : Int) ∧ c = .int .i64 ((dm h k : Nat) : Int) ∧ z = .int .i64 ((bs w h k : Nat) : Int) ∧ Hid (wr.ownsRow W.heap.size 3 1 l k ((pthL w h x y k).map (Value.int .i64)) ∧ Below W.heap.size W wr)) (fun _ _ _ a c _ _ => (intOf a + intOf c).toNat)
  case atStart => exact ⟨0, by have := HD.out.1; omega, by simp, by simp, rfl, rfl, rfl, World.ownsRow_nil _ _ _ _, KQ.out⟩
  case round =>
    obtain ⟨k, hk, rfl, rfl, rfl, rfl, rfl, hT⟩ := hrel
    have q1 := dm_pos HB.out.1 k
    have q2 := dm_pos HB.out.2.1 k
    have q3 := dm_le HB.out.1 k
    have q4 := dm_le HB.out.2.1 k
    have q5 : dm w k * dm h k ≤ 65536 := Nat.le_trans (Nat.mul_le_mul q3 q4) HB.out.2.2.1
    have q6 : dm w k ≤ 65536 := by have := HB.out; omega
    have q7 : dm h k ≤ 65536 := by have := HB.out; omega
    have hX := dm_at HXY.out.1 k
    have hY := dm_at HXY.out.2 k
    have hg := grid_lt hX hY
    have hb0 := HBS.out k (by have := HD.out.2.1; omega)
    have wm : IntKind.i64.wrap (((dm w k : Nat) : Int) * ((dm h k : Nat) : Int)) = ((dm w k * dm h k : Nat) : Int) := by rw [← Int.natCast_mul, IntWalk.i64_left]; generalize dm w k * dm h k = P at *; unfold wrap64; omega
    have wy : IntKind.i64.wrap (((y / 2 ^ k : Nat) : Int) * ((dm w k : Nat) : Int)) = ((y / 2 ^ k * dm w k : Nat) : Int) := by rw [← Int.natCast_mul, IntWalk.i64_left]; generalize y / 2 ^ k * dm w k = P at *; generalize dm w k * dm h k = P2 at *; generalize x / 2 ^ k = P3 at *; unfold wrap64; omega
    have wb : IntKind.i64.wrap (((bs w h k : Nat) : Int) + ((y / 2 ^ k * dm w k : Nat) : Int)) = ((bs w h k + y / 2 ^ k * dm w k : Nat) : Int) := by rw [IntWalk.i64_left]; generalize y / 2 ^ k * dm w k = P at *; generalize dm w k * dm h k = P2 at *; generalize x / 2 ^ k = P3 at *; unfold wrap64; omega
    have wx : IntKind.i64.wrap (((bs w h k + y / 2 ^ k * dm w k : Nat) : Int) + ((x / 2 ^ k : Nat) : Int)) = ((ix w h k (x / 2 ^ k) (y / 2 ^ k) : Nat) : Int) := by rw [IntWalk.i64_left]; unfold ix; generalize y / 2 ^ k * dm w k = P at *; generalize dm w k * dm h k = P2 at *; generalize x / 2 ^ k = P3 at *; unfold wrap64; omega
    have eL : pthL w h x y (k + 1) = ((ix w h k (x / 2 ^ k) (y / 2 ^ k) : Nat) : Int) :: pthL w h x y k := rfl
    have hlen := pthL_len w h x y k
    have EX : Hid (x / 2 ^ (k + 1) = x / 2 ^ k / 2 ∧ y / 2 ^ (k + 1) = y / 2 ^ k / 2) := Lib.hid ⟨half_at x k, half_at y k⟩
    have EL := Lib.hid eL
    have EI : Hid (bs w h (k + 1) = bs w h k + dm w k * dm h k) := Lib.hid rfl
    have hD17 := HD.out.2.1
    obtain ⟨hown, hbl⟩ := hT.out
    have HBL := Lib.hid hbl
    have PL : Hid (∀ (v' : Value) (w2 : World), w2.ownsRow W.heap.size 3 1 v' (1 + k) ([.int .i64 ((ix w h k (x / 2 ^ k) (y / 2 ^ k) : Nat) : Int)] ++ (pthL w h x y k).map (Value.int .i64)) → w2.ownsRow W.heap.size 3 1 v' (k + 1) ((pthL w h x y (k + 1)).map (Value.int .i64))) := Lib.hid (fun v' w2 ho => by
      rw [eL, Nat.add_comm k 1]
      exact ho)
    have hal := below_alloc (Below.refl _ wr) (.cells #[.int .i64 ((ix w h k (x / 2 ^ k) (y / 2 ^ k) : Nat) : Int)] 3)
    have o1 : (wr.alloc (.cells #[.int .i64 ((ix w h k (x / 2 ^ k) (y / 2 ^ k) : Nat) : Int)] 3)).ownsRow W.heap.size 3 1 (.slice (some ⟨wr.heap.size, 0, none⟩) 1 1) 1 [.int .i64 ((ix w h k (x / 2 ^ k) (y / 2 ^ k) : Nat) : Int)] := ⟨rfl, .inr ⟨wr.heap.size, 1, _, rfl, hbl.size, Blk.new wr 3 #[.int .i64 ((ix w h k (x / 2 ^ k) (y / 2 ^ k) : Nat) : Int)], Nat.le_refl _, by decide, rfl, rfl⟩⟩
    have HAL := Lib.hid (below_call hbl hal)
    have HO1 := Lib.hid o1
    have HOW := Lib.hid hown
    clear eL hT hal o1 hbl
    obtain ⟨l1, l2⟩ := hown
    generalize pthL w h x y k = L at *
    generalize hL1 : pthL w h x y (k + 1) = L1 at *
    have EL1 := Lib.hid hL1
    clear hL1
    generalize ix w h k (x / 2 ^ k) (y / 2 ^ k) = ii at *
    generalize bs w h k + y / 2 ^ k * dm w k = by0 at *
    generalize y / 2 ^ k * dm w k = yw at *
    generalize hX1 : x / 2 ^ (k + 1) = X1 at *
    generalize hY1 : y / 2 ^ (k + 1) = Y1 at *
    have EX1 := Lib.hid hX1
    have EY1 := Lib.hid hY1
    clear hX1 hY1
    generalize x / 2 ^ k = X at *
    generalize y / 2 ^ k = Y at *
    by_cases hlt : k + 1 < D
    · have hm := MORE.out k hlt
      have w1 : IntKind.i64.wrap (((dm w k : Nat) : Int) + 1) = ((dm w k : Nat) : Int) + 1 := by rw [IntWalk.i64_left]; unfold wrap64; omega
      have w2 : IntKind.i64.wrap (((dm h k : Nat) : Int) + 1) = ((dm h k : Nat) : Int) + 1 := by rw [IntWalk.i64_left]; unfold wrap64; omega
      have e1 : (((dm w k : Nat) : Int) + 1) / 2 = ((dm w (k + 1) : Nat) : Int) := by show _ = (((dm w k + 1) / 2 : Nat) : Int); omega
      have e2 : (((dm h k : Nat) : Int) + 1) / 2 = ((dm h (k + 1) : Nat) : Int) := by show _ = (((dm h k + 1) / 2 : Nat) : Int); omega
      have e3 : ((X : Nat) : Int) / 2 = ((X1 : Nat) : Int) := by rw [EX.out.1]; omega
      have e4 : ((Y : Nat) : Int) / 2 = ((Y1 : Nat) : Int) := by rw [EX.out.2]; omega
      have w3 : wrap64 ((X1 : Nat) : Int) = ((X1 : Nat) : Int) := by have := EX.out.1; unfold wrap64; omega
      have w4 : wrap64 ((Y1 : Nat) : Int) = ((Y1 : Nat) : Int) := by have := EX.out.2; unfold wrap64; omega
      have wn : IntKind.i64.wrap (((bs w h k : Nat) : Int) + ((dm w k * dm h k : Nat) : Int)) = ((bs w h (k + 1) : Nat) : Int) := by rw [EI.out, IntWalk.i64_left]; generalize dm w k * dm h k = P at *; unfold wrap64; omega
      have MS : Hid (dm w (k + 1) + dm h (k + 1) < dm w k + dm h k) := by
        have h1 : dm w (k + 1) = (dm w k + 1) / 2 := rfl
        have h2 : dm h (k + 1) = (dm h k + 1) / 2 := rfl
        have h3 : 2 ≤ dm w k ∨ 2 ≤ dm h k := by
          by_cases a : 2 ≤ dm w k
          · exact .inl a
          · have : dm w k = 1 := by omega
            rw [this, Nat.one_mul] at hm
            exact .inr hm
        exact Lib.hid (by omega)
      generalize hA1 : dm w (k + 1) = a1 at *
      generalize hB1 : dm h (k + 1) = b1 at *
      generalize hN2 : bs w h (k + 1) = n2 at *
      have A1 := Lib.hid hA1
      have B1 := Lib.hid hB1
      have N2 := Lib.hid hN2
      clear EI hA1 hB1 hN2
      generalize dm w k * dm h k = pp at *
      have g1 : ((pp : Int) == 1) = false := by simp; omega
      generalize dm w k = a0 at *
      generalize dm h k = b0 at *
      generalize bs w h k = n1 at *
      clear q1 q2 q3 q4 q5 hm hg hX hY hb0
      rcases l2 with ⟨rfl, h0⟩ | ⟨g0, cap, cur, rfl, h3, h4, h5, h6, h7, h8⟩
      · have hL0 : L = [] := List.length_eq_zero_iff.1 (by omega)
        have F : Hid ((wr.alloc (.cells #[.int .i64 (ii : Int)] 3)).ownsRow W.heap.size 3 1 (.slice (some ⟨wr.heap.size, 0, none⟩) 1 1) (k + 1) (L1.map (Value.int .i64)) ∧ Below W.heap.size W (wr.alloc (.cells #[.int .i64 (ii : Int)] 3))) := Lib.hid ⟨PL.out _ _ (by rw [hL0, h0]; exact HO1.out), HAL.out⟩
        clear l1 hL0 h0
        go_upto_region 3 with fail
        go_wp2_with (first | (at_builtin; refine wpList_append_own_none rfl _ _ 69 rfl W.heap.size 3 i0 1 Try.underlying69 hi _ 1 [.int .i64 (ii : Int)] rfl HO1.out rfl ?_))
        go_roundw
        case rel => exact ⟨k + 1, hlt, by first | (rw [EX1.out]; done) | rw [EX1.out, e3] | rw [EX1.out, w3], by first | (rw [EY1.out]; done) | rw [EY1.out, e4] | rw [EY1.out, w4], by first | (rw [A1.out]; done) | rw [A1.out, e1], by first | (rw [B1.out]; done) | rw [B1.out, e2], by first | (rw [N2.out]; done) | rw [N2.out, wn], by rw [EL1.out]; exact F.out⟩
        case measure => simp [intOf]; have := MS.out; omega
      · have hn0 : ∀ j u, (L.map (Value.int .i64))[j]? = some u → (wr.alloc (.cells #[.int .i64 (ii : Int)] 3)).cell? ((⟨g0, 0, none⟩ : Addr).add j) = some u := fun j u hj => by
          have hj2 : j < k * 1 := by
            have := (List.getElem?_eq_some_iff.1 hj).1
            simp at this; omega
          rw [← h8, List.getElem?_take_of_lt hj2, Array.getElem?_toList] at hj
          rw [show ((⟨g0, 0, none⟩ : Addr).add j) = ⟨g0, j, none⟩ by simp [Addr.add]; intro h; exact h.symm, (Blk.below (t := 3) h4 (below_alloc (Below.refl _ wr) _)).cell]
          exact hj
        have HN := Lib.hid hn0
        have hk17 : k ≤ 17 := by omega
        have hz : W.heap.size ≤ (wr.alloc (.cells #[.int .i64 (ii : Int)] 3)).heap.size := HAL.out.size
        clear l1 h3 h4 h5 h6 h7 h8 hn0
        go_upto_region 3 with fail
        go_wp2_with (first | (at_builtin; refine wpList_append_own_at _ rfl _ _ 69 rfl W.heap.size 3 i0 (.int .i64 0) 1 8 Try.underlying69 hi hz0 hz1 hz2 rfl (by decide) _ 1 [.int .i64 (ii : Int)] rfl HO1.out ⟨g0, 0, none⟩ k cap (L.map (Value.int .i64)) rfl (by simp [hlen]) HN.out (oneI _) (by unfold maxLen; omega) (by omega) hz ?_))
        intro v' w2 hown hgrow _ hat
        have F : Hid (w2.ownsRow W.heap.size 3 1 v' (k + 1) (L1.map (Value.int .i64)) ∧ Below W.heap.size W w2) := Lib.hid ⟨PL.out _ _ hown, HAL.out.grown hgrow HAL.out.size (fun q hq => (HO1.out.lt q hq).1)⟩
        obtain ⟨s', m', rfl⟩ := own_slice F.out.1
        clear hown hgrow hat hz
        go_wp2_with fail
        go_roundw
        case rel => exact ⟨k + 1, hlt, by first | (rw [EX1.out]; done) | rw [EX1.out, e3] | rw [EX1.out, w3], by first | (rw [EY1.out]; done) | rw [EY1.out, e4] | rw [EY1.out, w4], by first | (rw [A1.out]; done) | rw [A1.out, e1], by first | (rw [B1.out]; done) | rw [B1.out, e2], by first | (rw [N2.out]; done) | rw [N2.out, wn], by rw [EL1.out]; exact F.out⟩
        case measure => simp [intOf]; have := MS.out; omega
    · have hkD : k = D - 1 := by omega
      have e1 : dm w k = 1 := by rw [hkD]; exact HD.out.2.2.1
      have e2 : dm h k = 1 := by rw [hkD]; exact HD.out.2.2.2
      obtain rfl : k + 1 = D := by omega
      have hp1 : dm w k * dm h k = 1 := by rw [e1, e2]
      clear q1 q2 q3 q4 q5 hkD hg hX hY hb0 EI
      generalize dm w k * dm h k = pp at *
      have g1 : ((pp : Int) == 1) = true := by simp; omega
      clear hp1 e1 e2
      generalize dm w k = a0 at *
      generalize dm h k = b0 at *
      generalize bs w h k = n1 at *
      rcases l2 with ⟨rfl, h0⟩ | ⟨g0, cap, cur, rfl, h3, h4, h5, h6, h7, h8⟩
      · have hL0 : L = [] := List.length_eq_zero_iff.1 (by omega)
        have F : Hid ((wr.alloc (.cells #[.int .i64 (ii : Int)] 3)).ownsRow W.heap.size 3 1 (.slice (some ⟨wr.heap.size, 0, none⟩) 1 1) (k + 1) (L1.map (Value.int .i64)) ∧ Below W.heap.size W (wr.alloc (.cells #[.int .i64 (ii : Int)] 3))) := Lib.hid ⟨PL.out _ _ (by rw [hL0, h0]; exact HO1.out), HAL.out⟩
        clear l1 hL0 h0
        go_upto_region 3 with fail
        go_wp2_with (first | (at_builtin; refine wpList_append_own_none rfl _ _ 69 rfl W.heap.size 3 i0 1 Try.underlying69 hi _ 1 [.int .i64 (ii : Int)] rfl HO1.out rfl ?_))
        have R := Lib.hid (own_ends F.out)
        go_ret
        rw [EL1.out]
        exact R.out
      · have hn0 : ∀ j u, (L.map (Value.int .i64))[j]? = some u → (wr.alloc (.cells #[.int .i64 (ii : Int)] 3)).cell? ((⟨g0, 0, none⟩ : Addr).add j) = some u := fun j u hj => by
          have hj2 : j < k * 1 := by
            have := (List.getElem?_eq_some_iff.1 hj).1
            simp at this; omega
          rw [← h8, List.getElem?_take_of_lt hj2, Array.getElem?_toList] at hj
          rw [show ((⟨g0, 0, none⟩ : Addr).add j) = ⟨g0, j, none⟩ by simp [Addr.add]; intro h; exact h.symm, (Blk.below (t := 3) h4 (below_alloc (Below.refl _ wr) _)).cell]
          exact hj
        have HN := Lib.hid hn0
        have hk17 : k ≤ 17 := by omega
        have hz : W.heap.size ≤ (wr.alloc (.cells #[.int .i64 (ii : Int)] 3)).heap.size := HAL.out.size
        clear l1 h3 h4 h5 h6 h7 h8 hn0
        go_upto_region 3 with fail
        go_wp2_with (first | (at_builtin; refine wpList_append_own_at _ rfl _ _ 69 rfl W.heap.size 3 i0 (.int .i64 0) 1 8 Try.underlying69 hi hz0 hz1 hz2 rfl (by decide) _ 1 [.int .i64 (ii : Int)] rfl HO1.out ⟨g0, 0, none⟩ k cap (L.map (Value.int .i64)) rfl (by simp [hlen]) HN.out (oneI _) (by unfold maxLen; omega) (by omega) hz ?_))
        intro v' w2 hown hgrow _ hat
        have F : Hid (w2.ownsRow W.heap.size 3 1 v' (k + 1) (L1.map (Value.int .i64)) ∧ Below W.heap.size W w2) := Lib.hid ⟨PL.out _ _ hown, HAL.out.grown hgrow HAL.out.size (fun q hq => (HO1.out.lt q hq).1)⟩
        obtain ⟨s', m', rfl⟩ := own_slice F.out.1
        clear hown hgrow hat hz
        go_wp2_with fail
        have R := Lib.hid (own_ends F.out)
        go_ret
        rw [EL1.out]
        exact R.out
end Go.Proofs.Ytaddendclipkkaa
