/-
  Layer 18, for the example of layer 19: Decode of no passes.
-/
import Derived.Test.YtnmmgjbjnhiaoaaDoorDb19
import Derived.Maps.AppendAt
set_option maxRecDepth 100000
namespace Go.Proofs.YtnmmgjbjnhiaoaaDoor
open Go.RowKit

theorem own_grown19 {w w' : World} {base n : Nat} {e : TypeId} {v : Value} {xs : List Value} {row : Option Nat} (h : w.ownsRow base e 1 v n xs) (hg : w.grownBy w' row) (hne : ∀ g, v.ownBlock = some g → row ≠ some g) : w'.ownsRow base e 1 v n xs := by
  obtain ⟨h1, h2⟩ := h
  refine ⟨h1, ?_⟩
  rcases h2 with h | ⟨g, cap, cur, rfl, h3, h4, h5⟩
  · exact .inl h
  · exact .inr ⟨g, cap, cur, rfl, h3, (hg.block g (Array.getElem?_eq_some_iff.1 h4).1 (fun e => hne g rfl e.symm)).trans h4, h5⟩
def zs (k : Nat) : List Value := List.replicate k (.int .i64 0)
theorem zs_app (k : Nat) : zs k ++ [.int .i64 0] = zs (k + 1) := by unfold zs; rw [List.replicate_succ']
/-- Two rows of zeros of the call's own. -/
structure Z2 (WA wr : World) (v1 v2 : Value) (k : Nat) : Prop where
  o1 : wr.ownsRow WA.heap.size 3 1 v1 k (zs k)
  o2 : wr.ownsRow WA.heap.size 3 1 v2 k (zs k)
  ap : ∀ g, v1.ownBlock = some g → v2.ownBlock ≠ some g
  below : Below WA.heap.size WA wr
/-- The first of them has one more. -/
structure Z21 (WA wr : World) (v1 v2 : Value) (k : Nat) : Prop where
  o1 : wr.ownsRow WA.heap.size 3 1 v1 (k + 1) (zs (k + 1))
  o2 : wr.ownsRow WA.heap.size 3 1 v2 k (zs k)
  ap : ∀ g, v1.ownBlock = some g → v2.ownBlock ≠ some g
  below : Below WA.heap.size WA wr
theorem own_lt19 {w : World} {base n : Nat} {e : TypeId} {v : Value} {xs : List Value} (h : w.ownsRow base e 1 v n xs) {k : Nat} (hk : v.ownBlock = some k) : k < w.heap.size := by
  obtain ⟨_, ds, hd⟩ := own_foot h hk
  exact hd.lt
theorem Z2.fst {WA wr w3 : World} {v1 v2 v' : Value} {k : Nat} {X : Obj} (h : Z2 WA wr v1 v2 k) (hown : w3.ownsRow WA.heap.size 3 1 v' (k + 1) (zs k ++ [.int .i64 0])) (hg : (wr.alloc X).grownBy w3 v1.ownBlock) (hat : v'.ownBlock = v1.ownBlock ∨ v'.ownBlock = some (wr.heap.size + 1)) : Z21 WA w3 v' v2 k := by
  refine ⟨by rw [← zs_app]; exact hown, own_grown19 (own_below h.o2 ((Below.refl _ _).alloc (Nat.le_refl _) X)) hg (fun g h2 h1 => h.ap g h1 h2), fun g hg1 hg2 => ?_, ?_⟩
  · rcases hat with h1 | h1
    · exact h.ap g (by rw [← h1]; exact hg1) hg2
    · rw [hg1] at h1
      have := own_lt19 h.o2 hg2
      simp at h1
      omega
  · exact (h.below.alloc h.below.size X).grown hg (by have := h.below.size; simp; omega) fun j hj => (own_foot h.o1 hj).1
theorem Z21.snd {WA wr w3 : World} {v1 v2 v' : Value} {k : Nat} {X : Obj} (h : Z21 WA wr v1 v2 k) (hown : w3.ownsRow WA.heap.size 3 1 v' (k + 1) (zs k ++ [.int .i64 0])) (hg : (wr.alloc X).grownBy w3 v2.ownBlock) (hat : v'.ownBlock = v2.ownBlock ∨ v'.ownBlock = some (wr.heap.size + 1)) : Z2 WA w3 v1 v' (k + 1) := by
  refine ⟨own_grown19 (own_below h.o1 ((Below.refl _ _).alloc (Nat.le_refl _) X)) hg (fun g h1 h2 => h.ap g h1 h2), by rw [← zs_app]; exact hown, fun g hg1 hg2 => ?_, ?_⟩
  · rcases hat with h1 | h1
    · exact h.ap g hg1 (by rw [← h1]; exact hg2)
    · rw [hg2] at h1
      have := own_lt19 h.o1 hg1
      simp at h1
      omega
  · exact (h.below.alloc h.below.size X).grown hg (by have := h.below.size; simp; omega) fun j hj => (own_foot h.o2 hj).1
set_option maxHeartbeats 8000000 in
theorem decode_0 (W : World) : Calls Tryd.prog 22 #[zeroCd, .int .i64 0, .int .i64 2, .int .i64 2, .int .i64 0, zeroMd] W fun e w' => ∃ v1 v2 W2, e = .returned (.tuple #[v1, v2, .int .i64 0]) ∧ Below W.heap.size W W2 ∧ Z2 W2 w' v1 v2 4 := by
  have ks := fun W => start_0 W
  have kp := fun W A => perform_0 W A
  unfold zeroCd zeroMd at *
  obtain ⟨i0, hi, hz0, hz1, hz2⟩ := info_parts infoI
  obtain ⟨WA, hWA⟩ : ∃ x, x = (W.alloc (.cells #[.int .i64 0, .slice none 0 0, .slice none 0 0] 40)).alloc (.cells #[.bool false, .bool false, .bool false, .bool false, .bool false] 43) := ⟨_, rfl⟩
  have hB : Below W.heap.size W WA := by rw [hWA]; exact below_alloc (below_alloc (Below.refl _ W) _) _
  have hX : Blk WA W.heap.size 40 #[.int .i64 0, .slice none 0 0, .slice none 0 0] := by rw [hWA]; exact (Blk.new W _ _).alloc _
  have hY : Blk WA (W.heap.size + 1) 43 #[.bool false, .bool false, .bool false, .bool false, .bool false] := by
    have := Blk.new (W.alloc (.cells #[.int .i64 0, .slice none 0 0, .slice none 0 0] 40)) 43 #[.bool false, .bool false, .bool false, .bool false, .bool false]
    rw [hWA]; simpa using this
  have k1 := ks WA
  have KP := Lib.hid kp
  have HB := Lib.hid hB
  have HX := Lib.hid hX
  have HY := Lib.hid hY
  have HWA := Lib.hid hWA
  rw [hWA] at k1
  clear hB hX hY hWA ks kp
  go_enter Tryd.func22, Tryd.ntmps22
  go_wp2_with (first | (go_at_call 37; (with_reducible refine k1.mono ?_); rintro e w1 ⟨B, A, V, S, T, R, rfl, hC, hb⟩; have B1 := Lib.hid (show Below WA.heap.size WA w1 by rw [HWA.out]; exact hb); have C1 := Lib.hid hC; obtain ⟨m0, m1, m2, m3, m4⟩ := md19 (HY.out.below B1.out); have x0 : w1.cell? ⟨W.heap.size, 0, none⟩ = some (.int .i64 0) := (HX.out.below B1.out).cell 0; have x1 : w1.cell? ⟨W.heap.size, 1, none⟩ = some (.slice none 0 0) := (HX.out.below B1.out).cell 1; have x2 : w1.cell? ⟨W.heap.size, 2, none⟩ = some (.slice none 0 0) := (HX.out.below B1.out).cell 2; have kp := KP.out w1 A; clear hb hC) | (go_at_call 38; (with_reducible refine kp.mono ?_); rintro e w2 ⟨rfl, hb⟩; have B2 := Lib.hid (below_call B1.out hb); have C2 := Lib.hid (C1.out.below hb); have x0 : w2.cell? ⟨W.heap.size, 0, none⟩ = some (.int .i64 0) := (HX.out.below B2.out).cell 0; clear hb) | fail)
  clear k1 kp m0 m1 m2 m3 m4 x0 x1 x2
  go_loopw [12, 13, 47] (fun v1 v2 u wr => ∃ y : Nat, y ≤ 2 ∧ u = .int .i64 (y : Int) ∧ Hid (Z2 w2 wr v1 v2 (2 * y))) (fun _ _ u _ => 2 - (intOf u).toNat)
  case atStart => exact ⟨0, by decide, rfl, World.ownsRow_nil _ _ _ _, World.ownsRow_nil _ _ _ _, fun g hg => by simp [Value.ownBlock] at hg, Below.refl _ _⟩
  case round =>
    obtain ⟨y, hy, rfl, hZ⟩ := hrel
    obtain ⟨wo, rfl⟩ : ∃ wo : World, wo = wr := ⟨_, rfl⟩
    obtain ⟨s1, n1, rfl⟩ := own_slice hZ.out.o1
    obtain ⟨s2, n2, rfl⟩ := own_slice hZ.out.o2
    by_cases hlt : y < 2
    · have HY2 := Lib.hid hlt
      have wy : IntKind.i64.wrap ((y : Int) + 1) = ((y + 1 : Nat) : Int) := by rw [IntWalk.i64_left]; unfold wrap64; omega
      have WY := Lib.hid wy
      have hyy : (y : Int) < 2 := by omega
      generalize h2y : 2 * y = ky at *
      have H2Y := Lib.hid h2y
      clear hlt wy h2y hy
      go_wp2_with fail
      go_loopw [12, 13, 51] (fun v1 v2 u wr => ∃ x : Nat, x ≤ 2 ∧ u = .int .i64 (x : Int) ∧ Hid (Z2 w2 wr v1 v2 (ky + x))) (fun _ _ u _ => 2 - (intOf u).toNat)
      case atStart => exact ⟨0, by decide, rfl, hZ⟩
      case round =>
        obtain ⟨x, hx, rfl, hZ⟩ := hrel
        obtain ⟨s1, n1, rfl⟩ := own_slice hZ.out.o1
        obtain ⟨s2, n2, rfl⟩ := own_slice hZ.out.o2
        rename World => wi
        by_cases hlt : x < 2
        · have HX2 := Lib.hid hlt
          have wx : IntKind.i64.wrap ((x : Int) + 1) = ((x + 1 : Nat) : Int) := by rw [IntWalk.i64_left]; unfold wrap64; omega
          have hxx : (x : Int) < 2 := by omega
          have kv : Calls Tryd.prog 39 #[.pointer (some ⟨A, 0, none⟩), .int .i64 (x : Int), .int .i64 (y : Int)] wi fun e w' => e = .returned (.int .i64 0) ∧ wi = w' := value_c (C2.out.below hZ.out.below) (x : Int) (y : Int)
          have kt : ∀ W1 : World, Below w2.heap.size w2 W1 → Calls Tryd.prog 40 #[.pointer (some ⟨A, 0, none⟩), .int .i64 (x : Int), .int .i64 (y : Int)] W1 fun e w' => e = .returned (.bool false) ∧ W1 = w' := fun W1 hb => touched_c (C2.out.below hb) (x : Int) (y : Int)
          have KT := Lib.hid kt
          generalize hk : ky + x = k at *
          have HK : Hid (k ≤ 4) := by have := HX2.out; have := HY2.out; have := H2Y.out; exact (show k ≤ 4 by omega)
          have HKX := Lib.hid hk
          clear hlt hx hk kt
          go_wp2_with (first | (go_at_call 39; (with_reducible refine kv.mono ?_); rintro e wn ⟨rfl, rfl⟩) | (at_builtin; refine wpList_append_own_at _ rfl _ _ 28 rfl w2.heap.size 3 i0 (.int .i64 0) 1 8 Tryd.underlying28 hi hz0 hz1 hz2 rfl (by decide) _ k _ rfl (own_below hZ.out.o1 ((Below.refl _ _).alloc (Nat.le_refl _) _)) ⟨wi.heap.size, 0, none⟩ 1 1 [.int .i64 0] rfl rfl (one_new8 _ _ _) (by intro u hu; simp at hu; subst hu; rfl) (by have := HK.out; unfold maxLen; omega) (by have := HK.out; omega) (by have := hZ.out.below.size; simp; omega) ?_) | fail)
          intro v' w3 hown hgrow _ hat
          have ZA := Lib.hid (hZ.out.fst hown hgrow hat)
          obtain ⟨s3, n3, rfl⟩ := own_slice hown
          have kt := KT.out w3 ZA.out.below
          clear hown hgrow hat kv
          go_wp2_with (first | (go_at_call 40; (with_reducible refine kt.mono ?_); rintro e wn ⟨rfl, rfl⟩) | (at_builtin; refine wpList_append_own_at _ rfl _ _ 28 rfl w2.heap.size 3 i0 (.int .i64 0) 1 8 Tryd.underlying28 hi hz0 hz1 hz2 rfl (by decide) _ k _ rfl (own_below ZA.out.o2 ((Below.refl _ _).alloc (Nat.le_refl _) _)) ⟨w3.heap.size, 0, none⟩ 1 1 [.int .i64 0] rfl rfl (one_new8 _ _ _) (by intro u hu; simp at hu; subst hu; rfl) (by have := HK.out; unfold maxLen; omega) (by have := HK.out; omega) (by have := ZA.out.below.size; simp; omega) ?_) | fail)
          intro v' w4 hown hgrow _ hat
          have ZB := Lib.hid (ZA.out.snd hown hgrow hat)
          obtain ⟨s4, n4, rfl⟩ := own_slice hown
          clear hown hgrow hat kt
          go_wp2_with fail
          go_roundw
          case rel => exact ⟨x + 1, by have := HX2.out; omega, by go_num, by rw [show ky + (x + 1) = k + 1 by have := HKX.out; omega]; exact ZB⟩
          case measure => have := HX2.out; simp [intOf]; omega
        · obtain rfl : x = 2 := by omega
          have wy := WY.out
          have hxx : ¬ ((2 : Nat) : Int) < 2 := by omega
          go_wp2_with fail
          go_roundw
          case rel => exact ⟨y + 1, by have := HY2.out; omega, by go_num, by rw [show 2 * (y + 1) = ky + 2 by have := H2Y.out; omega]; exact hZ⟩
          case measure => have := HY2.out; simp [intOf]; omega
    · obtain rfl : y = 2 := by omega
      have BB := Lib.hid (below_call HB.out B2.out)
      go_wp2_with fail
      go_ret3
      exact ⟨_, _, w2, rfl, BB.out, hZ.out⟩
end Go.Proofs.YtnmmgjbjnhiaoaaDoor
