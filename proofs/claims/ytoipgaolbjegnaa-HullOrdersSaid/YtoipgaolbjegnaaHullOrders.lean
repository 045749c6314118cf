/-
  For all three slopes the statement HullOrders returns true; they read afterwards as before.
  Conditions: none beyond those of the given statement.
-/
import Derived.Test.YtoipgaolbjegnaaIe
import Derived.Test.YtoipgaolbjegnaaIf
import Derived.Test.YtoipgaolbjegnaaIg
set_option maxRecDepth 100000
namespace Go.Proofs.Ytoipgaolbjegnaa.hullOrders
open Go.ChangeShapes Go.WideShapes Go.ChangeAt Go.RowKit Go.Joins Go.Deep

theorem bnA {w : World} {B : Nat} {cs : Array Value} {t : TypeId} (X Y : Obj) (h : B = w.heap.size) : Blk (((w.alloc (.cells cs t)).alloc X).alloc Y).drew B t cs := by subst h; exact (((Blk.new w t cs).alloc X).alloc Y).drew
theorem bnB {w : World} {B : Nat} {cs : Array Value} {t : TypeId} (X Y : Obj) (h : B = w.heap.size + 1) : Blk (((w.alloc X).alloc (.cells cs t)).alloc Y).drew B t cs := by
  have := Blk.new (w.alloc X) t cs
  subst h; exact ((show Blk _ (w.heap.size + 1) t cs by simpa using this).alloc Y).drew
theorem bnC {w : World} {B : Nat} {cs : Array Value} {t : TypeId} (X Y : Obj) (h : B = w.heap.size + 1 + 1) : Blk (((w.alloc X).alloc Y).alloc (.cells cs t)).drew B t cs := by
  have := Blk.new ((w.alloc X).alloc Y) t cs
  subst h; exact (show Blk _ (w.heap.size + 1 + 1) t cs by simpa using this).drew
set_option maxHeartbeats 16000000 in
theorem walk (a0 a1 b0 b1 c0 c1 : Int) (W : World) : Calls Try.prog 7 #[.agg #[.int .i64 a0, .int .i64 a1, .int .i64 b0, .int .i64 b1, .int .i64 c0, .int .i64 c1]] W fun e w' => e = .returned (.bool true) ∧ Below W.heap.size W w' := by
  obtain ⟨WA, hWA⟩ : ∃ x, x = W.alloc (.cells #[.int .i64 a0, .int .i64 a1, .int .i64 b0, .int .i64 b1, .int .i64 c0, .int .i64 c1] 34) := ⟨_, rfl⟩
  have hB : Below W.heap.size W WA := by rw [hWA]; exact below_alloc (Below.refl _ W) _
  have hX : Blk WA W.heap.size 34 #[.int .i64 a0, .int .i64 a1, .int .i64 b0, .int .i64 b1, .int .i64 c0, .int .i64 c1] := by rw [hWA]; exact Blk.new W _ _
  have HB := Lib.hid hB
  have HX := Lib.hid hX
  have HWA := Lib.hid hWA
  have ke := ex20_c
  have KE := Lib.hid ke
  clear hB hX hWA ke
  go_enter Try.func7, Try.ntmps7
  go_wp2_with fail
  rw [← HWA.out]
  go_loopw [3] (fun u wr => ∃ k : Nat, k ≤ 3 ∧ u = .int .i64 (k : Int) ∧ wr = WA ∧ Hid ((0 < k → okD a0 ∧ okR a1) ∧ (1 < k → okD b0 ∧ okR b1) ∧ (2 < k → okD c0 ∧ okR c1))) (fun u _ => 3 - (intOf u).toNat)
  case atStart => exact ⟨0, by decide, rfl, rfl, fun h => by omega, fun h => by omega, fun h => by omega⟩
  case round =>
    obtain ⟨k, hk, hi, rfl, hA⟩ := hrel
    obtain ⟨z0, z1, z2, z3, z4, z5⟩ : wr.cell? ⟨W.heap.size, 0, none⟩ = some (.int .i64 a0) ∧ wr.cell? ⟨W.heap.size, 1, none⟩ = some (.int .i64 a1) ∧ wr.cell? ⟨W.heap.size, 2, none⟩ = some (.int .i64 b0) ∧ wr.cell? ⟨W.heap.size, 3, none⟩ = some (.int .i64 b1) ∧ wr.cell? ⟨W.heap.size, 4, none⟩ = some (.int .i64 c0) ∧ wr.cell? ⟨W.heap.size, 5, none⟩ = some (.int .i64 c1) := ⟨HX.out.cell 0, HX.out.cell 1, HX.out.cell 2, HX.out.cell 3, HX.out.cell 4, HX.out.cell 5⟩
    match k, hk with
    | 0, _ =>
      · replace hi : _ = Value.int .i64 0 := hi
        subst hi
        by_cases g1 : a0 < 0
        ·
          go_wp2_with (first | (go_at_call 11; (with_reducible refine (KE.out _).mono ?_); rintro e w5 ⟨rfl, hb5⟩; have B5 := Lib.hid (below_call HB.out hb5); clear hb5) | fail)
          go_ret
          exact ⟨rfl, B5.out⟩
        · by_cases g2 : 70368744177664 < a0
          ·
            go_wp2_with (first | (go_at_call 11; (with_reducible refine (KE.out _).mono ?_); rintro e w5 ⟨rfl, hb5⟩; have B5 := Lib.hid (below_call HB.out hb5); clear hb5) | fail)
            go_ret
            exact ⟨rfl, B5.out⟩
          · by_cases g3 : a1 < 0
            ·
              go_wp2_with (first | (go_at_call 11; (with_reducible refine (KE.out _).mono ?_); rintro e w5 ⟨rfl, hb5⟩; have B5 := Lib.hid (below_call HB.out hb5); clear hb5) | fail)
              go_ret
              exact ⟨rfl, B5.out⟩
            · by_cases g4 : 65535 < a1
              ·
                go_wp2_with (first | (go_at_call 11; (with_reducible refine (KE.out _).mono ?_); rintro e w5 ⟨rfl, hb5⟩; have B5 := Lib.hid (below_call HB.out hb5); clear hb5) | fail)
                go_ret
                exact ⟨rfl, B5.out⟩
              · have GG := Lib.hid (show okD a0 ∧ okR a1 from ⟨⟨by omega, by omega⟩, ⟨by omega, by omega⟩⟩)
                go_wp2_with fail
                go_roundw
                case rel => exact ⟨1, by decide, rfl, (by first | trivial | rfl), ⟨fun _ => GG.out, fun h => by omega, fun h => by omega⟩⟩
                case measure => simp [intOf]
    | 1, _ =>
      · replace hi : _ = Value.int .i64 1 := hi
        subst hi
        by_cases g1 : b0 < 0
        ·
          go_wp2_with (first | (go_at_call 11; (with_reducible refine (KE.out _).mono ?_); rintro e w5 ⟨rfl, hb5⟩; have B5 := Lib.hid (below_call HB.out hb5); clear hb5) | fail)
          go_ret
          exact ⟨rfl, B5.out⟩
        · by_cases g2 : 70368744177664 < b0
          ·
            go_wp2_with (first | (go_at_call 11; (with_reducible refine (KE.out _).mono ?_); rintro e w5 ⟨rfl, hb5⟩; have B5 := Lib.hid (below_call HB.out hb5); clear hb5) | fail)
            go_ret
            exact ⟨rfl, B5.out⟩
          · by_cases g3 : b1 < 0
            ·
              go_wp2_with (first | (go_at_call 11; (with_reducible refine (KE.out _).mono ?_); rintro e w5 ⟨rfl, hb5⟩; have B5 := Lib.hid (below_call HB.out hb5); clear hb5) | fail)
              go_ret
              exact ⟨rfl, B5.out⟩
            · by_cases g4 : 65535 < b1
              ·
                go_wp2_with (first | (go_at_call 11; (with_reducible refine (KE.out _).mono ?_); rintro e w5 ⟨rfl, hb5⟩; have B5 := Lib.hid (below_call HB.out hb5); clear hb5) | fail)
                go_ret
                exact ⟨rfl, B5.out⟩
              · have GG := Lib.hid (show okD b0 ∧ okR b1 from ⟨⟨by omega, by omega⟩, ⟨by omega, by omega⟩⟩)
                go_wp2_with fail
                go_roundw
                case rel => exact ⟨2, by decide, rfl, (by first | trivial | rfl), ⟨fun _ => hA.out.1 (by decide), fun _ => GG.out, fun h => by omega⟩⟩
                case measure => simp [intOf]
    | 2, _ =>
      · replace hi : _ = Value.int .i64 2 := hi
        subst hi
        by_cases g1 : c0 < 0
        ·
          go_wp2_with (first | (go_at_call 11; (with_reducible refine (KE.out _).mono ?_); rintro e w5 ⟨rfl, hb5⟩; have B5 := Lib.hid (below_call HB.out hb5); clear hb5) | fail)
          go_ret
          exact ⟨rfl, B5.out⟩
        · by_cases g2 : 70368744177664 < c0
          ·
            go_wp2_with (first | (go_at_call 11; (with_reducible refine (KE.out _).mono ?_); rintro e w5 ⟨rfl, hb5⟩; have B5 := Lib.hid (below_call HB.out hb5); clear hb5) | fail)
            go_ret
            exact ⟨rfl, B5.out⟩
          · by_cases g3 : c1 < 0
            ·
              go_wp2_with (first | (go_at_call 11; (with_reducible refine (KE.out _).mono ?_); rintro e w5 ⟨rfl, hb5⟩; have B5 := Lib.hid (below_call HB.out hb5); clear hb5) | fail)
              go_ret
              exact ⟨rfl, B5.out⟩
            · by_cases g4 : 65535 < c1
              ·
                go_wp2_with (first | (go_at_call 11; (with_reducible refine (KE.out _).mono ?_); rintro e w5 ⟨rfl, hb5⟩; have B5 := Lib.hid (below_call HB.out hb5); clear hb5) | fail)
                go_ret
                exact ⟨rfl, B5.out⟩
              · have GG := Lib.hid (show okD c0 ∧ okR c1 from ⟨⟨by omega, by omega⟩, ⟨by omega, by omega⟩⟩)
                go_wp2_with fail
                go_roundw
                case rel => exact ⟨3, by decide, rfl, (by first | trivial | rfl), ⟨fun _ => hA.out.1 (by decide), fun _ => hA.out.2.1 (by decide), fun _ => GG.out⟩⟩
                case measure => simp [intOf]
    | 3, _ =>
      replace hi : _ = Value.int .i64 3 := hi
      subst hi
      obtain ⟨oa, ob, oc⟩ := hA.out
      obtain ⟨a9, a8⟩ := oa (by decide)
      obtain ⟨b9, b8⟩ := ob (by decide)
      obtain ⟨c9, c8⟩ := oc (by decide)
      have s1 := hsteeper_c a0 a1 b0 b1
      have s2 := hsteeper_c b0 b1 c0 c1
      have s3 := hsteeper_c a0 a1 c0 c1
      have s4 := hsteeper_c b0 b1 a0 a1
      have s5 := hsteeper_c a0 a1 a0 a1
      rw [steep_neg a9 a8 b9 b8] at s4
      rw [steep_self a9 a8] at s5
      have hxy := steep_trans a9 a8 b9 b8 c9 c8
      have hin1 := steep_in a0 a1 b0 b1
      have hin2 := steep_in b0 b1 c0 c1
      generalize steep a0 a1 b0 b1 = x at *
      generalize steep b0 b1 c0 c1 = y at *
      generalize steep a0 a1 c0 c1 = z at *
      have S1 := Lib.hid s1
      have S2 := Lib.hid s2
      have S3 := Lib.hid s3
      have S4 := Lib.hid s4
      have S5 := Lib.hid s5
      have w1 : IntKind.i64.wrap (-x) = -x := by rw [IntWalk.i64_left]; unfold wrap64; omega
      have w2 : IntKind.i64.wrap (x + y) = x + y := by rw [IntWalk.i64_left]; unfold wrap64; omega
      have e1 : ¬ x < -1 := by omega
      have e2 : ¬ 1 < x := by omega
      have e3 : (-x != -x) = false := by simp
      clear s1 s2 s3 s4 s5 oa ob oc a9 a8 b9 b8 c9 c8 hA
      have y10 : ∀ X : Obj, (wr.alloc X).cell? ⟨W.heap.size, 0, none⟩ = some (.int .i64 a0) := fun X => (cell_alloc z0 X)
      have y11 : ∀ X : Obj, (wr.alloc X).cell? ⟨W.heap.size, 1, none⟩ = some (.int .i64 a1) := fun X => (cell_alloc z1 X)
      have y12 : ∀ X : Obj, (wr.alloc X).cell? ⟨W.heap.size, 2, none⟩ = some (.int .i64 b0) := fun X => (cell_alloc z2 X)
      have y13 : ∀ X : Obj, (wr.alloc X).cell? ⟨W.heap.size, 3, none⟩ = some (.int .i64 b1) := fun X => (cell_alloc z3 X)
      have y14 : ∀ X : Obj, (wr.alloc X).cell? ⟨W.heap.size, 4, none⟩ = some (.int .i64 c0) := fun X => (cell_alloc z4 X)
      have y15 : ∀ X : Obj, (wr.alloc X).cell? ⟨W.heap.size, 5, none⟩ = some (.int .i64 c1) := fun X => (cell_alloc z5 X)
      have y20 : ∀ X Y : Obj, ((wr.alloc X).alloc Y).cell? ⟨W.heap.size, 0, none⟩ = some (.int .i64 a0) := fun X Y => (cell_alloc (cell_alloc z0 X) Y)
      have y21 : ∀ X Y : Obj, ((wr.alloc X).alloc Y).cell? ⟨W.heap.size, 1, none⟩ = some (.int .i64 a1) := fun X Y => (cell_alloc (cell_alloc z1 X) Y)
      have y22 : ∀ X Y : Obj, ((wr.alloc X).alloc Y).cell? ⟨W.heap.size, 2, none⟩ = some (.int .i64 b0) := fun X Y => (cell_alloc (cell_alloc z2 X) Y)
      have y23 : ∀ X Y : Obj, ((wr.alloc X).alloc Y).cell? ⟨W.heap.size, 3, none⟩ = some (.int .i64 b1) := fun X Y => (cell_alloc (cell_alloc z3 X) Y)
      have y24 : ∀ X Y : Obj, ((wr.alloc X).alloc Y).cell? ⟨W.heap.size, 4, none⟩ = some (.int .i64 c0) := fun X Y => (cell_alloc (cell_alloc z4 X) Y)
      have y25 : ∀ X Y : Obj, ((wr.alloc X).alloc Y).cell? ⟨W.heap.size, 5, none⟩ = some (.int .i64 c1) := fun X Y => (cell_alloc (cell_alloc z5 X) Y)
      have y30 : ∀ X Y Z : Obj, (((wr.alloc X).alloc Y).alloc Z).cell? ⟨W.heap.size, 0, none⟩ = some (.int .i64 a0) := fun X Y Z => (cell_alloc (cell_alloc (cell_alloc z0 X) Y) Z)
      have y31 : ∀ X Y Z : Obj, (((wr.alloc X).alloc Y).alloc Z).cell? ⟨W.heap.size, 1, none⟩ = some (.int .i64 a1) := fun X Y Z => (cell_alloc (cell_alloc (cell_alloc z1 X) Y) Z)
      have y32 : ∀ X Y Z : Obj, (((wr.alloc X).alloc Y).alloc Z).cell? ⟨W.heap.size, 2, none⟩ = some (.int .i64 b0) := fun X Y Z => (cell_alloc (cell_alloc (cell_alloc z2 X) Y) Z)
      have y33 : ∀ X Y Z : Obj, (((wr.alloc X).alloc Y).alloc Z).cell? ⟨W.heap.size, 3, none⟩ = some (.int .i64 b1) := fun X Y Z => (cell_alloc (cell_alloc (cell_alloc z3 X) Y) Z)
      have y34 : ∀ X Y Z : Obj, (((wr.alloc X).alloc Y).alloc Z).cell? ⟨W.heap.size, 4, none⟩ = some (.int .i64 c0) := fun X Y Z => (cell_alloc (cell_alloc (cell_alloc z4 X) Y) Z)
      have y35 : ∀ X Y Z : Obj, (((wr.alloc X).alloc Y).alloc Z).cell? ⟨W.heap.size, 5, none⟩ = some (.int .i64 c1) := fun X Y Z => (cell_alloc (cell_alloc (cell_alloc z5 X) Y) Z)
      have hxy2 := hin1
      have hsum := hin2
      clear hin1 hin2
      clear hxy2 hsum
      go_upto_region 6 with fail
      go_cut [4, 5, 6] from 41 to 46 (fun v4 v5 v6 wx => ∃ n4 n5 n6 : Nat, v4 = .pointer (some ⟨n4, 0, none⟩) ∧ v5 = .pointer (some ⟨n5, 0, none⟩) ∧ v6 = .pointer (some ⟨n6, 0, none⟩) ∧ Hid (Blk wx n4 27 #[.int .i64 a0, .int .i64 a1]) ∧ Hid (Blk wx n5 27 #[.int .i64 b0, .int .i64 b1]) ∧ Hid (Blk wx n6 27 #[.int .i64 c0, .int .i64 c1]) ∧ Hid (Below wr.heap.size wr wx))
      case first =>
        go_region
        all_goals
          go_wp2_with fail
          go_meet
          exact ⟨_, _, _, rfl, rfl, rfl, by first | exact bnA _ _ rfl | exact bnB _ _ rfl | exact bnC _ _ rfl, by first | exact bnA _ _ rfl | exact bnB _ _ rfl | exact bnC _ _ rfl, by first | exact bnA _ _ rfl | exact bnB _ _ rfl | exact bnC _ _ rfl, (below_alloc (below_alloc (below_alloc (Below.refl _ _) _) _) _).drew⟩
      case rest =>
        obtain ⟨n4, n5, n6, rfl, rfl, rfl, hb4, hb5, hb6, hX9⟩ := hcut
        have u0 := hb4.out.cell 0
        have u1 := hb4.out.cell 1
        have u2 := hb5.out.cell 0
        have u3 := hb5.out.cell 1
        have u4 := hb6.out.cell 0
        have u5 := hb6.out.cell 1
        clear z0 z1 z2 z3 z4 z5 y10 y11 y12 y13 y14 y15 y20 y21 y22 y23 y24 y25 y30 y31 y32 y33 y34 y35
        by_cases g1 : 0 ≤ x
        · by_cases g2 : 0 ≤ y
          · have g3 : decide (z < 0) = false := decide_eq_false (by have := (hxy g1 g2).1; omega)
            by_cases g4 : 0 < x + y
            · have g5 : (z == 0) = false := by have := (hxy g1 g2).2 g4; simp; omega
              have h1 : decide (0 ≤ x) = true := decide_eq_true g1
              have h2 : decide (0 ≤ y) = true := decide_eq_true g2
              have h4 : decide (0 < x + y) = true := decide_eq_true g4
              clear hxy
              go_wp2_with (first | (go_at_call 14; (first | (with_reducible refine (S1.out _).mono ?_) | (with_reducible refine (S2.out _).mono ?_) | (with_reducible refine (S3.out _).mono ?_) | (with_reducible refine (S4.out _).mono ?_) | (with_reducible refine (S5.out _).mono ?_)); rintro e wn ⟨rfl, rfl⟩) | (go_at_call 11; (with_reducible refine (KE.out _).mono ?_); rintro e w5 ⟨rfl, hb5⟩; have B5 := Lib.hid hb5; clear hb5) | fail)
              go_ret
              exact ⟨rfl, below_call (below_call HB.out hX9.out) B5.out⟩
            · have h1 : decide (0 ≤ x) = true := decide_eq_true g1
              have h2 : decide (0 ≤ y) = true := decide_eq_true g2
              have h4 : decide (0 < x + y) = false := decide_eq_false g4
              clear hxy
              go_wp2_with (first | (go_at_call 14; (first | (with_reducible refine (S1.out _).mono ?_) | (with_reducible refine (S2.out _).mono ?_) | (with_reducible refine (S3.out _).mono ?_) | (with_reducible refine (S4.out _).mono ?_) | (with_reducible refine (S5.out _).mono ?_)); rintro e wn ⟨rfl, rfl⟩) | (go_at_call 11; (with_reducible refine (KE.out _).mono ?_); rintro e w5 ⟨rfl, hb5⟩; have B5 := Lib.hid hb5; clear hb5) | fail)
              go_ret
              exact ⟨rfl, below_call (below_call HB.out hX9.out) B5.out⟩
          · have h1 : decide (0 ≤ x) = true := decide_eq_true g1
            have h2 : decide (0 ≤ y) = false := decide_eq_false g2
            clear hxy
            go_wp2_with (first | (go_at_call 14; (first | (with_reducible refine (S1.out _).mono ?_) | (with_reducible refine (S2.out _).mono ?_) | (with_reducible refine (S3.out _).mono ?_) | (with_reducible refine (S4.out _).mono ?_) | (with_reducible refine (S5.out _).mono ?_)); rintro e wn ⟨rfl, rfl⟩) | (go_at_call 11; (with_reducible refine (KE.out _).mono ?_); rintro e w5 ⟨rfl, hb5⟩; have B5 := Lib.hid hb5; clear hb5) | fail)
            go_ret
            exact ⟨rfl, below_call (below_call HB.out hX9.out) B5.out⟩
        · have h1 : decide (0 ≤ x) = false := decide_eq_false g1
          clear hxy
          go_wp2_with (first | (go_at_call 14; (first | (with_reducible refine (S1.out _).mono ?_) | (with_reducible refine (S2.out _).mono ?_) | (with_reducible refine (S3.out _).mono ?_) | (with_reducible refine (S4.out _).mono ?_) | (with_reducible refine (S5.out _).mono ?_)); rintro e wn ⟨rfl, rfl⟩) | (go_at_call 11; (with_reducible refine (KE.out _).mono ?_); rintro e w5 ⟨rfl, hb5⟩; have B5 := Lib.hid hb5; clear hb5) | fail)
          go_ret
          exact ⟨rfl, below_call (below_call HB.out hX9.out) B5.out⟩
    | k + 4, h => omega

set_option maxRecDepth 100000 in
theorem lifted (os : Os) (started : os.Started) (H : Type) (enc : TypeId × Value → H) :
    ReturnsInHanded {} Try.checked os 7 .any (Rows.hullOrdersSpec.pre6 enc Try.prog Try.f7 Rows.hullOrdersRow.domain false) (Rows.hullOrdersSpec.post enc Try.prog Try.f7 false true false false) := by
  refine returnsInHanded_of_change (C := Try.checked) own started (by kernel_rfl) Try.func7
    (ChangeSpec.witness6 (enc := enc) (C := Try.checked) false ⟨#[], #[.agg #[.int .i64 0, .int .i64 0, .int .i64 0, .int .i64 0, .int .i64 0, .int .i64 0]], []⟩ 8 (by kernel_rfl) (by kernel_rfl) (by kernel_rfl) (by kernel_rfl)) ?_
  intro W base args ds gs before hval0 hW _ _
  have hval : ∀ (j : Nat) t v, Try.f7.params[j]? = some t → args[j]? = some v → Value.okWide Try.prog W .any base t v := hval0
  have hW' := hW
  obtain ⟨p, q, hA0, hV, rfl, _, _⟩ := hW
  have hA : DataW.TrodAll enc Try.prog W 0 (fun _ => true) true Try.f7.params.toList args.toList ds p := hA0
  rw [Try.params7] at hA hval
  obtain ⟨v0, vs0, d0, ds0, p0, q0, hargs, rfl, rfl, h0, r0⟩ := trodAll_cons hA
  obtain ⟨rfl, rfl, rfl⟩ := trodAll_nil r0
  obtain rfl : args = #[v0] := by cases args; simp_all
  obtain ⟨rfl, rfl⟩ := trodVars_none hV
  clear hA0 hval0
  simp only [List.append_nil] at hW'
  have l0 : ∀ x ∈ p0, x.block < W.heap.size := fun x hx => hW'.lt x (by simp [hx])
  obtain ⟨x0, x1, x2, x3, x4, x5, rfl⟩ := open_A32 (hval 0 34 v0 rfl rfl) h0
  refine (walk x0 x1 x2 x3 x4 x5 W).mono fun e W' ⟨he, hb⟩ => ?_
  subst he
  exact ⟨_, rfl, post_low (pa := p0 ++ ([])) (pv := []) hW' (fun _ _ _ => (trodAll_cons_mk (shut_bool Try.underlying4 _) trodAll_mk0)) (fun sp hsp => (trodAll_cons_mk (trod_low laidOut (by kernel_rfl) (of_decide_eq_true (by kernel_rfl)) h0 hb l0 (fun x hx => hsp x (by simp [hx]))) trodAll_mk0)) (fun _ _ => rfl) (by simp) hb (ok_one (by kernel_rfl) rfl (okWide_bool_mk Try.underlying4 _))⟩

theorem over : Rows.hullOrdersRow.holds Try.pinned (OpenSpec.ofChange Rows.hullOrdersSpec) :=
  OpenClaim.holds_of_wide 7 Try.f7 rfl rfl rfl rfl rfl rfl rfl ⟨rfl, rfl, rfl, rfl, rfl⟩ rfl rfl rfl rfl rfl (by kernel_rfl) Try.func7 (by kernel_rfl)
    (of_decide_eq_true (by kernel_rfl)) (by unfold Func.isWrapper; first | (rw [if_pos (by decide +kernel)]; kernel_rfl) | (rw [if_neg (by decide +kernel)]; exact ⟨rfl, rfl⟩))
    (fun os started H enc _ => lifted os started H enc)

theorem proved : Rows.HullOrdersSaid :=
  over
#print axioms proved
end Go.Proofs.Ytoipgaolbjegnaa.hullOrders
