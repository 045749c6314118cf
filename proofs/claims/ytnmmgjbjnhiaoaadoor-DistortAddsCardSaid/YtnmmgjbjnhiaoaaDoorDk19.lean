/-
  Layer 19: the examples.
-/
import Derived.Test.YtnmmgjbjnhiaoaaDoorDj19
import Derived.Test.YtnmmgjbjnhiaoaaDoorDi19
set_option maxRecDepth 100000
namespace Go.Proofs.YtnmmgjbjnhiaoaaDoor
open Go.RowKit

theorem ex_tot : toV [5, -20] [0, -2] [0, 0] 8 16 4 = 104 ∧ toE [5, -20] [0, -2] [0, 0] 8 16 4 = 0 := by decide +kernel
theorem ex_len : toV [5] [0, -2] [0] 8 16 4 = 0 ∧ toE [5] [0, -2] [0] 8 16 4 = 4 := by decide +kernel
theorem ex_wgt : wgtI 3 0 = 16 ∧ wgtI 3 9 = 1 ∧ wgtI 0 0 = 1 ∧ wgtI 0 1 = 0 := by decide +kernel
theorem ex_er : erI (-20) (-2) 0 8 16 = 1 ∧ erI 100000 0 0 1 16 = 32767 := by decide +kernel
set_option maxHeartbeats 8000000 in
theorem ex19_c (W : World) : Calls Tryd.prog 11 #[] W fun e w' => e = .returned (.bool true) ∧ Below W.heap.size W w' := by
  have k1 : ∀ w : World, Calls Tryd.prog 14 #[.slice (some ⟨w.heap.size, 0, none⟩) 2 2, .slice (some ⟨w.heap.size + 1, 0, none⟩) 2 2, .slice (some ⟨w.heap.size + 1 + 1, 0, none⟩) 2 2, .int .i64 8, .int .i64 16, .int .i64 4] (((w.alloc (.cells #[.int .i64 5, .int .i64 (-20)] 3)).alloc (.cells #[.int .i64 0, .int .i64 (-2)] 3)).alloc (.cells #[.int .i64 0, .int .i64 0] 3)) fun e w' => e = .returned (.tuple #[.int .i64 104, .int .i64 0]) ∧ Below w.heap.size w w' := fun w => by
    have h1 : HoldsI (w.alloc (.cells #[.int .i64 5, .int .i64 (-20)] 3)) (some ⟨w.heap.size, 0, none⟩) [5, -20] := holds_new w _ rfl [5, -20] _ rfl
    have h2 : HoldsI ((w.alloc (.cells #[.int .i64 5, .int .i64 (-20)] 3)).alloc (.cells #[.int .i64 0, .int .i64 (-2)] 3)) (some ⟨w.heap.size + 1, 0, none⟩) [0, -2] := holds_new _ _ (by simp) [0, -2] _ rfl
    have h3 : HoldsI (((w.alloc (.cells #[.int .i64 5, .int .i64 (-20)] 3)).alloc (.cells #[.int .i64 0, .int .i64 (-2)] 3)).alloc (.cells #[.int .i64 0, .int .i64 0] 3)) (some ⟨w.heap.size + 1 + 1, 0, none⟩) [0, 0] := holds_new _ _ (by simp) [0, 0] _ rfl
    have k := dtotal_c [5, -20] [0, -2] [0, 0] _ _ _ 2 2 2 2 2 2 8 16 4 _ ((h1.alloc _).alloc _) (h2.alloc _) h3 rfl rfl rfl (by intro v hv; simp at hv; unfold i64R; omega)
    rw [ex_tot.1, ex_tot.2] at k
    exact k.mono fun e w' z => ⟨z.1, below_call (below_alloc (below_alloc (below_alloc (Below.refl _ _) _) _) _) z.2⟩
  have k2 : ∀ w : World, Calls Tryd.prog 14 #[.slice (some ⟨w.heap.size, 0, none⟩) 1 1, .slice (some ⟨w.heap.size + 1, 0, none⟩) 2 2, .slice (some ⟨w.heap.size + 1 + 1, 0, none⟩) 1 1, .int .i64 8, .int .i64 16, .int .i64 4] (((w.alloc (.cells #[.int .i64 5] 3)).alloc (.cells #[.int .i64 0, .int .i64 (-2)] 3)).alloc (.cells #[.int .i64 0] 3)) fun e w' => e = .returned (.tuple #[.int .i64 0, .int .i64 4]) ∧ Below w.heap.size w w' := fun w => by
    have h1 : HoldsI (w.alloc (.cells #[.int .i64 5] 3)) (some ⟨w.heap.size, 0, none⟩) [5] := holds_new w _ rfl [5] _ rfl
    have h2 : HoldsI ((w.alloc (.cells #[.int .i64 5] 3)).alloc (.cells #[.int .i64 0, .int .i64 (-2)] 3)) (some ⟨w.heap.size + 1, 0, none⟩) [0, -2] := holds_new _ _ (by simp) [0, -2] _ rfl
    have h3 : HoldsI (((w.alloc (.cells #[.int .i64 5] 3)).alloc (.cells #[.int .i64 0, .int .i64 (-2)] 3)).alloc (.cells #[.int .i64 0] 3)) (some ⟨w.heap.size + 1 + 1, 0, none⟩) [0] := holds_new _ _ (by simp) [0] _ rfl
    have k := dtotal_c [5] [0, -2] [0] _ _ _ 1 2 1 1 2 1 8 16 4 _ ((h1.alloc _).alloc _) (h2.alloc _) h3 rfl rfl rfl (by intro v hv; simp at hv; unfold i64R; omega)
    rw [ex_len.1, ex_len.2] at k
    exact k.mono fun e w' z => ⟨z.1, below_call (below_alloc (below_alloc (below_alloc (Below.refl _ _) _) _) _) z.2⟩
  have k3 := fun w : World => curve_0 (w.alloc (.cells #[.int .i64 3, .int .i64 0, .int .i64 0, .int .i64 1] 3)) (some ⟨w.heap.size, 0, none⟩) (holds_new w _ rfl [3, 0, 0, 1] _ rfl)
  have k4 : ∀ (w : World) (s : Option Addr) (m : Nat) (x : Int) (X : Obj), HoldsI w s [x] → Calls Tryd.prog 28 #[.slice s 1 m, .slice (some ⟨w.heap.size + 1, 0, none⟩) 1 1] ((w.alloc X).alloc (.cells #[.int .i64 x] 3)) fun e w' => e = .returned (.bool true) ∧ Below w.heap.size w w' ∧ Below (w.alloc X).heap.size (w.alloc X) w' := fun w s m x X h =>
    (same14_t _ [x] s _ 1 m 1 rfl ((h.alloc _).alloc _) (holds_new _ _ (by simp) [x] _ rfl) (by simp)).mono fun e w' z => ⟨z.1, below_call (below_alloc (below_alloc (Below.refl _ _) _) _) z.2, below_call (below_alloc (Below.refl _ _) _) z.2⟩
  have k5 : ∀ (w : World) (s : Option Addr) (m : Nat) (x : Int), HoldsI w s [x] → Calls Tryd.prog 28 #[.slice s 1 m, .slice (some ⟨w.heap.size, 0, none⟩) 1 1] (w.alloc (.cells #[.int .i64 x] 3)) fun e w' => e = .returned (.bool true) ∧ Below w.heap.size w w' := fun w s m x h =>
    (same14_t _ [x] s _ 1 m 1 rfl (h.alloc _) (holds_new _ _ rfl [x] _ rfl) (by simp)).mono fun e w' z => ⟨z.1, below_call (below_alloc (Below.refl _ _) _) z.2⟩
  have kw : ∀ (l i x : Int), wgtI l i = x → ∀ w, Calls Tryd.prog 9 #[.int .i64 l, .int .i64 i] w fun e w' => e = .returned (.int .i64 x) ∧ w' = w := fun l i x h w => by have k := dweight_c l i w; rw [h] at k; exact k
  have v1 := kw 3 0 16 ex_wgt.1
  have v2 := kw 3 9 1 ex_wgt.2.1
  have v3 := kw 0 0 1 ex_wgt.2.2.1
  have v4 := kw 0 1 0 ex_wgt.2.2.2
  have ke : ∀ (c v m s d x : Int), i64R v → erI c v m s d = x → ∀ w, Calls Tryd.prog 12 #[.int .i64 c, .int .i64 v, .int .i64 m, .int .i64 s, .int .i64 d] w fun e w' => e = .returned (.int .i64 x) ∧ w' = w := fun c v m s d x hv h w => by have k := derror_c c v m s d w hv; rw [h] at k; exact k
  have r1 := ke (-20) (-2) 0 8 16 1 (by unfold i64R; omega) ex_er.1
  have r2 := ke 100000 0 0 1 16 32767 (by unfold i64R; omega) ex_er.2
  have K1 := Lib.hid k1
  have K2 := Lib.hid k2
  have K3 := Lib.hid k3
  have K4 := Lib.hid k4
  have K5 := Lib.hid k5
  have V1 := Lib.hid v1
  have V2 := Lib.hid v2
  have V3 := Lib.hid v3
  have V4 := Lib.hid v4
  have R1 := Lib.hid r1
  have R2 := Lib.hid r2
  clear k1 k2 k3 k4 k5 kw ke v1 v2 v3 v4 r1 r2
  go_enter Tryd.func11, Tryd.ntmps11
  go_wp2_with (first
    | (go_at_call 14; (with_reducible refine (K1.out _).mono ?_); rintro e w1 ⟨rfl, hb⟩; have B1 := Lib.hid hb; clear hb)
    | (go_at_call 14; (with_reducible refine (K2.out _).mono ?_); rintro e w2 ⟨rfl, hb⟩; have B2 := Lib.hid (below_call B1.out hb); clear hb)
    | (go_at_call 27; (with_reducible refine (K3.out _).mono ?_); rintro e w3 ⟨g1, o1, m1, g2, o2, m2, rfl, h1, h2, hb⟩; have B3 := Lib.hid (below_call B2.out (below_call (below_alloc (Below.refl _ _) _) hb)); have H1 := Lib.hid h1; have H2 := Lib.hid h2; clear hb h1 h2)
    | (go_at_call 28; (with_reducible refine (K4.out _ _ _ _ _ H1.out).mono ?_); rintro e w4 ⟨rfl, hb, hb2⟩; have y0 := ((Blk.new w3 57 #[.slice (some ⟨g1, o1, none⟩) 1 m1, .slice (some ⟨g2, o2, none⟩) 1 m2]).below hb2).cell 1; have H3 := Lib.hid (H2.out.call hb); have B4 := Lib.hid (below_call B3.out hb); clear hb hb2)
    | (go_at_call 28; (with_reducible refine (K5.out _ _ _ _ H3.out).mono ?_); rintro e w5 ⟨rfl, hb⟩; have B5 := Lib.hid (below_call B4.out hb); clear hb)
    | (go_at_call 9; (first | (with_reducible refine (V1.out _).mono ?_) | (with_reducible refine (V2.out _).mono ?_) | (with_reducible refine (V3.out _).mono ?_) | (with_reducible refine (V4.out _).mono ?_)); rintro e wn ⟨rfl, rfl⟩)
    | (go_at_call 12; (first | (with_reducible refine (R1.out _).mono ?_) | (with_reducible refine (R2.out _).mono ?_)); rintro e wn ⟨rfl, rfl⟩)
    | fail)
  go_ret
  exact ⟨rfl, B5.out⟩
end Go.Proofs.YtnmmgjbjnhiaoaaDoor
