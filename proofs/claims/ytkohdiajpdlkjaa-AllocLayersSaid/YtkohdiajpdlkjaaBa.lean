/-
  Layer 21: contracts of Cost and of the reference's Cost.
-/
import Derived.Test.YtkohdiajpdlkjaaAv
import Derived.Test.YtkohdiajpdlkjaaAx
set_option maxRecDepth 100000
namespace Go.Proofs.Ytkohdiajpdlkjaa
open Go.RowKit

def sR (cs : List Cv) (ch : List Int) : Nat → Int
  | 0 => 0
  | k + 1 => sR cs ch k + (cs.getD k ([], [])).1.getD (ch.getD k 0).toNat 0
def sD (cs : List Cv) (ch : List Int) : Nat → Int
  | 0 => 0
  | k + 1 => sD cs ch k + (cs.getD k ([], [])).2.getD (ch.getD k 0).toNat 0
def gd (cs : List Cv) (ch : List Int) (n : Nat) : Prop := ∀ j, j < n → 0 ≤ ch.getD j 0 ∧ ch.getD j 0 < ((cs.getD j ([], [])).1.length : Int)
theorem below_drewN {B : Nat} {a w : World} (h : Below B a w) (n : Nat) : Below B a (w.drewN n) := ⟨h.os, h.tape, h.output, h.size, h.block⟩
theorem vp_len {R D : List Int} (h : VP R D) : D.length = R.length := by have := h.1; omega
theorem vp_at {R D : List Int} (h : VP R D) {k : Nat} (hk : k < R.length) : 0 ≤ R.getD k 0 ∧ R.getD k 0 ≤ 65535 ∧ 0 ≤ D.getD k 0 ∧ D.getD k 0 ≤ 70368744177664 := by
  obtain ⟨h1, h2, h3, h4, h5, h6, h7⟩ := h
  have e1 := asc_le h5 0 k (by omega)
  have e2 := asc_le h5 k (R.length - 1 - k) (by omega)
  rw [Nat.zero_add, h4] at e1
  rw [show k + (R.length - 1 - k) = R.length - 1 by omega] at e2
  have e3 := h7 k (by omega)
  exact ⟨e1, by omega, e3.1, e3.2⟩

theorem cost_big (a : Option Addr) (n m : Nat) (v : Value) (W : World) (hn : 65536 < n) : Calls Try.prog 16 #[.slice a n m, v] W fun e w' => e = .returned (.tuple #[.int .i64 0, .int .i64 0, .int .i64 5]) ∧ w' = W := by
  have kc := check_big a m n W hn
  clear hn
  go_enter Try.func16, Try.ntmps16
  go_wp2_with (first | (go_at_call 19; (with_reducible refine kc.mono ?_); rintro e w1 ⟨rfl, rfl⟩) | fail)
  go_ret3
  exact ⟨rfl, rfl⟩
theorem cost_bad (a : Option Addr) (n m : Nat) (v : Value) (cs : List Cv) (W : World) (hC : HoldsCv W a cs) (hn : n = cs.length) (hn2 : n ≤ 65536) (hok : ¬ okC cs) : Calls Try.prog 16 #[.slice a n m, v] W fun e w' => e = .returned (.tuple #[.int .i64 0, .int .i64 0, .int .i64 1]) ∧ Below W.heap.size W w' := by
  have kc := check_c a m n cs W hC hn hn2 1 ⟨fun h => absurd h hok, fun _ => rfl⟩
  clear hC hn hn2 hok
  go_enter Try.func16, Try.ntmps16
  go_wp2_with (first | (go_at_call 19; (with_reducible refine kc.mono ?_); rintro e w1 ⟨rfl, hb⟩; have HB := Lib.hid hb; clear hb) | fail)
  go_ret3
  exact ⟨rfl, HB.out⟩
theorem cost_len (a b : Option Addr) (n m p q : Nat) (cs : List Cv) (W : World) (hC : HoldsCv W a cs) (hn : n = cs.length) (hok : okC cs) (hp : p ≠ n) : Calls Try.prog 16 #[.slice a n m, .slice b p q] W fun e w' => e = .returned (.tuple #[.int .i64 0, .int .i64 0, .int .i64 4]) ∧ Below W.heap.size W w' := by
  have kc := check_c a m n cs W hC hn (by have := hok.1; omega) 0 ⟨fun _ => rfl, fun h => absurd hok h⟩
  have h1 : ((p : Int) != (n : Int)) = true := by simp; omega
  clear hC hn hok hp
  go_enter Try.func16, Try.ntmps16
  go_wp2_with (first | (go_at_call 19; (with_reducible refine kc.mono ?_); rintro e w1 ⟨rfl, hb⟩; have HB := Lib.hid hb; clear hb) | fail)
  go_ret3
  exact ⟨rfl, HB.out⟩
set_option maxHeartbeats 1000000 in
theorem cost_c (a b : Option Addr) (n m q : Nat) (cs : List Cv) (ch : List Int) (W : World) (hC : HoldsCv W a cs) (hn : n = cs.length) (hok : okC cs) (hb : HoldsI W b ch) (hl : n = ch.length) (x y z : Int) (hy : gd cs ch n → x = sR cs ch n ∧ y = sD cs ch n ∧ z = 0) (hno : ¬ gd cs ch n → x = 0 ∧ y = 0 ∧ z = 2) :
    Calls Try.prog 16 #[.slice a n m, .slice b n q] W fun e w' => e = .returned (.tuple #[.int .i64 x, .int .i64 y, .int .i64 z]) ∧ Below W.heap.size W w' := by
  have hn2 : n ≤ 65536 := by have := hok.1; omega
  have kc := check_c a m n cs W hC hn hn2 0 ⟨fun _ => rfl, fun h => absurd hok h⟩
  have HC := Lib.hid hC
  have HN := Lib.hid hn
  have HOK := Lib.hid hok
  have HCH := Lib.hid hb
  have HL := Lib.hid hl
  have HY := Lib.hid hy
  have HNO := Lib.hid hno
  have HN2 := Lib.hid hn2
  have h1 : ((n : Int) != (n : Int)) = false := by simp
  clear hC hn hok hb hl hy hno hn2
  go_enter Try.func16, Try.ntmps16
  go_wp2_with (first | (go_at_call 19; (with_reducible refine kc.mono ?_); rintro e w1 ⟨rfl, hb⟩; have B1 := Lib.hid hb; clear hb) | fail)
  go_loopw [4, 5, 23] (fun x1 y1 i wr => ∃ k : Nat, ∃ rt ds : Int, k ≤ n ∧ x1 = .int .i64 rt ∧ y1 = .int .i64 ds ∧ i = .int .i64 (k : Int) ∧ Hid (rt = sR cs ch k ∧ ds = sD cs ch k ∧ gd cs ch k ∧ 0 ≤ rt ∧ rt ≤ k * 65535 ∧ 0 ≤ ds ∧ ds ≤ k * 70368744177664) ∧ Hid (Below W.heap.size W wr)) (fun _ _ i _ => n - (intOf i).toNat)
  case atStart => exact ⟨0, 0, 0, Nat.zero_le _, rfl, rfl, rfl, Lib.hid ⟨rfl, rfl, fun j hj => absurd hj (Nat.not_lt_zero _), by omega, by simp, by omega, by simp⟩, B1⟩
  case round =>
    obtain ⟨k, rt, ds, hk, rfl, rfl, rfl, hI, hB⟩ := hrel
    obtain ⟨w0, rfl⟩ : ∃ w0 : World, w0 = wr := ⟨_, rfl⟩
    have hn9 := HN2.out
    by_cases hlt : k < n
    · have hkc : k < cs.length := by have := HN.out; omega
      have hkl : k < ch.length := by have := HL.out; omega
      obtain ⟨b0, off, sr, sd, mr, md, rfl, c0, c1, hR, hD⟩ := (HC.out.below hB.out (Nat.le_refl _)).at hkc
      obtain ⟨b2, off2, rfl, e0⟩ := (HCH.out.below hB.out (Nat.le_refl _)).at hkl
      have hv := HOK.out.2 k hkc
      obtain ⟨R, D, hRD⟩ : ∃ R D, cs.getD k ([], []) = (R, D) := ⟨_, _, rfl⟩
      rw [hRD] at c0 c1 hR hD hv
      dsimp only at c0 c1 hR hD hv
      have HRD := Lib.hid hRD
      obtain ⟨r, hr⟩ : ∃ r, r = R.length := ⟨_, rfl⟩
      have hd : D.length = r := by rw [hr]; exact vp_len hv
      rw [← hr] at c0
      rw [hd] at c1
      obtain ⟨v, hvv⟩ : ∃ v, v = ch.getD k 0 := ⟨_, rfl⟩
      rw [← hvv] at e0
      have HVV := Lib.hid hvv
      have HR := Lib.hid hr
      have e1 := fun X : Obj => cell_alloc e0 X
      clear hRD hvv hd hkc hkl
      by_cases hneg : v < 0
      · have hz := HNO.out (fun g => by have := (g k hlt).1; have := HVV.out; omega)
        obtain ⟨rfl, rfl, rfl⟩ := hz
        clear hR hD hv hr
        go_wp2_with fail
        go_ret3
        exact ⟨rfl, below_alloc hB.out _⟩
      · obtain ⟨vn, rfl⟩ : ∃ vn : Nat, v = (vn : Int) := ⟨v.toNat, by omega⟩
        by_cases hge : vn < r
        · obtain ⟨br, orr, rfl, f0⟩ := hR.at (show vn < R.length by omega)
          obtain ⟨bd, odd, rfl, f1⟩ := hD.at (show vn < D.length by have := vp_len hv; omega)
          have f2 := fun X : Obj => cell_alloc f0 X
          have f3 := fun X : Obj => cell_alloc f1 X
          obtain ⟨g1, g2, g3, g4⟩ := vp_at hv (show vn < R.length by omega)
          obtain ⟨xr, hxr⟩ : ∃ x, x = R.getD vn 0 := ⟨_, rfl⟩
          obtain ⟨xd, hxd⟩ : ∃ x, x = D.getD vn 0 := ⟨_, rfl⟩
          rw [← hxr] at f0 f2 g1 g2
          rw [← hxd] at f1 f3 g3 g4
          have HX := Lib.hid (show xr = R.getD vn 0 ∧ xd = D.getD vn 0 from ⟨hxr, hxd⟩)
          obtain ⟨i1, i2, i3, i4, i5, i6, i7⟩ := hI.out
          have w1 : IntKind.i64.wrap (rt + xr) = rt + xr := by rw [IntWalk.i64_left]; unfold wrap64; omega
          have w2 : IntKind.i64.wrap (ds + xd) = ds + xd := by rw [IntWalk.i64_left]; unfold wrap64; omega
          have NI := Lib.hid (show rt + xr = sR cs ch (k + 1) ∧ ds + xd = sD cs ch (k + 1) ∧ gd cs ch (k + 1) ∧ 0 ≤ rt + xr ∧ rt + xr ≤ ((k + 1 : Nat) : Int) * 65535 ∧ 0 ≤ ds + xd ∧ ds + xd ≤ ((k + 1 : Nat) : Int) * 70368744177664 by
            refine ⟨?_, ?_, ?_, by omega, by rw [Int.natCast_add, Int.add_mul]; omega, by omega, by rw [Int.natCast_add, Int.add_mul]; omega⟩
            · rw [sR, ← i1, HRD.out, ← HVV.out, HX.out.1]; rfl
            · rw [sD, ← i2, HRD.out, ← HVV.out, HX.out.2]; rfl
            · intro j hj
              rcases Nat.lt_or_ge j k with h | h
              · exact i3 j h
              · obtain rfl : j = k := by omega
                rw [HRD.out, ← HVV.out]
                have := HR.out
                exact ⟨by omega, by show (vn : Int) < (R.length : Int); omega⟩)
          have z0 : (0 : Int) ≤ (vn : Int) := by omega
          have z1 : (vn : Int) < (r : Int) := by omega
          have z2 : ¬ (vn : Int) < 0 := by omega
          have z3 : ¬ (r : Int) ≤ (vn : Int) := by omega
          clear hR hD hv hr hxr hxd g1 g2 g3 g4 i1 i2 i3 i4 i5 i6 i7 hneg hge e0 f0 f1
          go_wp2_with fail
          go_roundw
          case rel => exact ⟨k + 1, rt + xr, ds + xd, by omega, rfl, rfl, by go_num, NI, below_alloc hB.out _⟩
          case measure => simp [intOf]; omega
        · have hz := HNO.out (fun g => by have h9 := (g k hlt).2; rw [HRD.out, ← HVV.out] at h9; have := HR.out; change (vn : Int) < (R.length : Int) at h9; omega)
          obtain ⟨rfl, rfl, rfl⟩ := hz
          have z0 : (0 : Int) ≤ (vn : Int) := by omega
          have z3 : (r : Int) ≤ (vn : Int) := by omega
          have z2 : ¬ (vn : Int) < 0 := by omega
          clear hR hD hv hr hneg hge
          go_wp2_with fail
          go_ret3
          exact ⟨rfl, below_alloc hB.out _⟩
    · obtain rfl : k = n := by omega
      have hz := HY.out hI.out.2.2.1
      obtain ⟨i1, i2, -⟩ := hI.out
      have hx : x = rt := hz.1.trans i1.symm
      have hy : y = ds := hz.2.1.trans i2.symm
      obtain rfl := hz.2.2
      subst hx hy
      clear hz i1 i2
      go_wp2_with fail
      go_ret3
      exact ⟨rfl, hB.out⟩

theorem rcost_big (a : Option Addr) (n m : Nat) (v : Value) (W : World) (hn : 65536 < n) : Calls Try.prog 15 #[.slice a n m, v] W fun e w' => e = .returned (.tuple #[.int .i64 0, .int .i64 0, .int .i64 5]) ∧ w' = W := by
  have kc := vcurves_big a m n W hn
  clear hn
  go_enter Try.func15, Try.ntmps15
  go_wp2_with (first | (go_at_call 17; (with_reducible refine kc.mono ?_); rintro e w1 ⟨rfl, rfl⟩) | fail)
  go_ret3
  exact ⟨rfl, rfl⟩
theorem rcost_bad (a : Option Addr) (n m : Nat) (v : Value) (cs : List Cv) (W : World) (hC : HoldsCv W a cs) (hn : n = cs.length) (hn2 : n ≤ 65536) (hok : ¬ okC cs) : Calls Try.prog 15 #[.slice a n m, v] W fun e w' => e = .returned (.tuple #[.int .i64 0, .int .i64 0, .int .i64 1]) ∧ Below W.heap.size W w' := by
  have kc := vcurves_c a m n cs W hC hn hn2 1 ⟨fun h => absurd h hok, fun _ => rfl⟩
  clear hC hn hn2 hok
  go_enter Try.func15, Try.ntmps15
  go_wp2_with (first | (go_at_call 17; (with_reducible refine kc.mono ?_); rintro e w1 ⟨rfl, hb⟩; have HB := Lib.hid hb; clear hb) | fail)
  go_ret3
  exact ⟨rfl, HB.out⟩
theorem rcost_len (a b : Option Addr) (n m p q : Nat) (cs : List Cv) (W : World) (hC : HoldsCv W a cs) (hn : n = cs.length) (hok : okC cs) (hp : p ≠ n) : Calls Try.prog 15 #[.slice a n m, .slice b p q] W fun e w' => e = .returned (.tuple #[.int .i64 0, .int .i64 0, .int .i64 4]) ∧ Below W.heap.size W w' := by
  have kc := vcurves_c a m n cs W hC hn (by have := hok.1; omega) 0 ⟨fun _ => rfl, fun h => absurd hok h⟩
  have h1 : ((p : Int) != (n : Int)) = true := by simp; omega
  clear hC hn hok hp
  go_enter Try.func15, Try.ntmps15
  go_wp2_with (first | (go_at_call 17; (with_reducible refine kc.mono ?_); rintro e w1 ⟨rfl, hb⟩; have HB := Lib.hid hb; clear hb) | fail)
  go_ret3
  exact ⟨rfl, HB.out⟩
set_option maxHeartbeats 1000000 in
theorem rcost_c (a b : Option Addr) (n m q : Nat) (cs : List Cv) (ch : List Int) (W : World) (hC : HoldsCv W a cs) (hn : n = cs.length) (hok : okC cs) (hb : HoldsI W b ch) (hl : n = ch.length) (x y z : Int) (hy : gd cs ch n → x = sR cs ch n ∧ y = sD cs ch n ∧ z = 0) (hno : ¬ gd cs ch n → x = 0 ∧ y = 0 ∧ z = 2) :
    Calls Try.prog 15 #[.slice a n m, .slice b n q] W fun e w' => e = .returned (.tuple #[.int .i64 x, .int .i64 y, .int .i64 z]) ∧ Below W.heap.size W w' := by
  have hn2 : n ≤ 65536 := by have := hok.1; omega
  have kc := vcurves_c a m n cs W hC hn hn2 0 ⟨fun _ => rfl, fun h => absurd hok h⟩
  have HC := Lib.hid hC
  have HN := Lib.hid hn
  have HOK := Lib.hid hok
  have HCH := Lib.hid hb
  have HL := Lib.hid hl
  have HY := Lib.hid hy
  have HNO := Lib.hid hno
  have HN2 := Lib.hid hn2
  have h1 : ((n : Int) != (n : Int)) = false := by simp
  clear hC hn hok hb hl hy hno hn2
  go_enter Try.func15, Try.ntmps15
  go_wp2_with (first | (go_at_call 17; (with_reducible refine kc.mono ?_); rintro e w1 ⟨rfl, hb⟩; have B1 := Lib.hid hb; clear hb) | fail)
  go_loopw [4, 5, 22] (fun x1 y1 i wr => ∃ k : Nat, ∃ rt ds : Int, k ≤ n ∧ x1 = .int .i64 rt ∧ y1 = .int .i64 ds ∧ i = .int .i64 (k : Int) ∧ Hid (rt = sR cs ch k ∧ ds = sD cs ch k ∧ gd cs ch k ∧ 0 ≤ rt ∧ rt ≤ k * 65535 ∧ 0 ≤ ds ∧ ds ≤ k * 70368744177664) ∧ Hid (Below W.heap.size W wr)) (fun _ _ i _ => n - (intOf i).toNat)
  case atStart => exact ⟨0, 0, 0, Nat.zero_le _, rfl, rfl, rfl, Lib.hid ⟨rfl, rfl, fun j hj => absurd hj (Nat.not_lt_zero _), by omega, by simp, by omega, by simp⟩, B1⟩
  case round =>
    obtain ⟨k, rt, ds, hk, rfl, rfl, rfl, hI, hB⟩ := hrel
    obtain ⟨w0, rfl⟩ : ∃ w0 : World, w0 = wr := ⟨_, rfl⟩
    have hn9 := HN2.out
    by_cases hlt : k < n
    · have hkc : k < cs.length := by have := HN.out; omega
      have hkl : k < ch.length := by have := HL.out; omega
      obtain ⟨b0, off, sr, sd, mr, md, rfl, c0, c1, hR, hD⟩ := (HC.out.below hB.out (Nat.le_refl _)).at hkc
      obtain ⟨b2, off2, rfl, e0⟩ := (HCH.out.below hB.out (Nat.le_refl _)).at hkl
      have hv := HOK.out.2 k hkc
      obtain ⟨R, D, hRD⟩ : ∃ R D, cs.getD k ([], []) = (R, D) := ⟨_, _, rfl⟩
      rw [hRD] at c0 c1 hR hD hv
      dsimp only at c0 c1 hR hD hv
      have HRD := Lib.hid hRD
      obtain ⟨r, hr⟩ : ∃ r, r = R.length := ⟨_, rfl⟩
      have hd : D.length = r := by rw [hr]; exact vp_len hv
      rw [← hr] at c0
      rw [hd] at c1
      obtain ⟨v, hvv⟩ : ∃ v, v = ch.getD k 0 := ⟨_, rfl⟩
      rw [← hvv] at e0
      have HVV := Lib.hid hvv
      have HR := Lib.hid hr
      have e1 := fun X : Obj => cell_alloc e0 X
      clear hRD hvv hd hkc hkl
      by_cases hneg : v < 0
      · have hz := HNO.out (fun g => by have := (g k hlt).1; have := HVV.out; omega)
        obtain ⟨rfl, rfl, rfl⟩ := hz
        clear hR hD hv hr
        go_wp2_with fail
        go_quiet (fail)
        go_wp2_with fail
        go_ret3
        exact ⟨rfl, below_drewN (below_alloc hB.out _) _⟩
      · obtain ⟨vn, rfl⟩ : ∃ vn : Nat, v = (vn : Int) := ⟨v.toNat, by omega⟩
        by_cases hge : vn < r
        · obtain ⟨br, orr, rfl, f0⟩ := hR.at (show vn < R.length by omega)
          obtain ⟨bd, odd, rfl, f1⟩ := hD.at (show vn < D.length by have := vp_len hv; omega)
          have f2 := fun X : Obj => cell_alloc f0 X
          have f3 := fun X : Obj => cell_alloc f1 X
          obtain ⟨g1, g2, g3, g4⟩ := vp_at hv (show vn < R.length by omega)
          obtain ⟨xr, hxr⟩ : ∃ x, x = R.getD vn 0 := ⟨_, rfl⟩
          obtain ⟨xd, hxd⟩ : ∃ x, x = D.getD vn 0 := ⟨_, rfl⟩
          rw [← hxr] at f0 f2 g1 g2
          rw [← hxd] at f1 f3 g3 g4
          have HX := Lib.hid (show xr = R.getD vn 0 ∧ xd = D.getD vn 0 from ⟨hxr, hxd⟩)
          obtain ⟨i1, i2, i3, i4, i5, i6, i7⟩ := hI.out
          have w1 : IntKind.i64.wrap (rt + xr) = rt + xr := by rw [IntWalk.i64_left]; unfold wrap64; omega
          have w2 : IntKind.i64.wrap (ds + xd) = ds + xd := by rw [IntWalk.i64_left]; unfold wrap64; omega
          have NI := Lib.hid (show rt + xr = sR cs ch (k + 1) ∧ ds + xd = sD cs ch (k + 1) ∧ gd cs ch (k + 1) ∧ 0 ≤ rt + xr ∧ rt + xr ≤ ((k + 1 : Nat) : Int) * 65535 ∧ 0 ≤ ds + xd ∧ ds + xd ≤ ((k + 1 : Nat) : Int) * 70368744177664 by
            refine ⟨?_, ?_, ?_, by omega, by rw [Int.natCast_add, Int.add_mul]; omega, by omega, by rw [Int.natCast_add, Int.add_mul]; omega⟩
            · rw [sR, ← i1, HRD.out, ← HVV.out, HX.out.1]; rfl
            · rw [sD, ← i2, HRD.out, ← HVV.out, HX.out.2]; rfl
            · intro j hj
              rcases Nat.lt_or_ge j k with h | h
              · exact i3 j h
              · obtain rfl : j = k := by omega
                rw [HRD.out, ← HVV.out]
                have := HR.out
                exact ⟨by omega, by show (vn : Int) < (R.length : Int); omega⟩)
          have z0 : (0 : Int) ≤ (vn : Int) := by omega
          have z1 : (vn : Int) < (r : Int) := by omega
          have z2 : ¬ (vn : Int) < 0 := by omega
          have z3 : ¬ (r : Int) ≤ (vn : Int) := by omega
          clear hR hD hv hr hxr hxd g1 g2 g3 g4 i1 i2 i3 i4 i5 i6 i7 hneg hge e0 f0 f1
          go_wp2_with fail
          go_quiet (fail)
          go_wp2_with fail
          go_quiet (fail)
          go_wp2_with fail
          go_quiet (fail)
          go_wp2_with fail
          go_roundw
          case rel => exact ⟨k + 1, rt + xr, ds + xd, by omega, rfl, rfl, by go_num, NI, below_drewN (below_alloc hB.out _) _⟩
          case measure => simp [intOf]; omega
        · have hz := HNO.out (fun g => by have h9 := (g k hlt).2; rw [HRD.out, ← HVV.out] at h9; have := HR.out; change (vn : Int) < (R.length : Int) at h9; omega)
          obtain ⟨rfl, rfl, rfl⟩ := hz
          have z0 : (0 : Int) ≤ (vn : Int) := by omega
          have z3 : (r : Int) ≤ (vn : Int) := by omega
          have z2 : ¬ (vn : Int) < 0 := by omega
          clear hR hD hv hr hneg hge
          go_wp2_with fail
          go_quiet (fail)
          go_wp2_with fail
          go_ret3
          exact ⟨rfl, below_drewN (below_alloc hB.out _) _⟩
    · obtain rfl : k = n := by omega
      have hz := HY.out hI.out.2.2.1
      obtain ⟨i1, i2, -⟩ := hI.out
      have hx : x = rt := hz.1.trans i1.symm
      have hy : y = ds := hz.2.1.trans i2.symm
      obtain rfl := hz.2.2
      subst hx hy
      clear hz i1 i2
      go_wp2_with fail
      go_ret3
      exact ⟨rfl, hB.out⟩
end Go.Proofs.Ytkohdiajpdlkjaa
