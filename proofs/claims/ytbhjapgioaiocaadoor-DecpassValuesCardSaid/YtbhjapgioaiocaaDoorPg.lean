/-
  Layer 14: the code's block: Signs; New.
-/
import Derived.Test.YtbhjapgioaiocaaDoorPf
set_option maxRecDepth 100000
namespace Go.Proofs.YtbhjapgioaiocaaDoor
open Go.RowKit

section
variable {W : World} {B A V S T R w h : Nat} {q : St}
def SGives (a b : Int) (W : World) (e : Ending) (w' : World) : Prop := e = .returned (.tuple #[.int .i64 a, .int .i64 b]) ∧ W = w'
theorem sgs_o (H : Cb W B A V S T R w h q) (x y : Int) (c : Bool) (hin : ¬ inB w h x y) : Calls Tryd.prog 128 #[.pointer (some ⟨A, 0, none⟩), .int .i64 x, .int .i64 y, .bool c] W (SGives 0 0 W) := by
  have f := find_o H x y hin
  clear H hin
  go_enter Tryd.func128, Tryd.ntmps128
  go_wp2_with (first | (go_at_call 85; (with_reducible refine f.mono ?_); rintro e wn ⟨rfl, rfl⟩))
  go_ret2
  exact ⟨rfl, rfl⟩
set_option maxHeartbeats 4000000 in
theorem sgs_y (H : Cb W B A V S T R w h q) (x y : Int) (c : Bool) (hin : inB w h x y) : Calls Tryd.prog 128 #[.pointer (some ⟨A, 0, none⟩), .int .i64 x, .int .i64 y, .bool c] W (SGives (sgH q x y) (sgV q x y c) W) := by
  have f := find_y H x y hin
  obtain ⟨c0, c1, c2, c3, c4, c5, c6⟩ := H.cells
  obtain ⟨s1, s2⟩ := ix_small H.fit hin
  have e := ix_is hin
  obtain ⟨h1, h2, h3, h4⟩ := hin
  have hfit : (w : Int) ≤ 64 ∧ (h : Int) ≤ 64 := by have := H.fit; unfold fits at this; omega
  obtain ⟨hf1, hf2⟩ := hfit
  have rw0 := row_c A w W (by omega) c0
  have hd := fun W => hidden_c y c h3 (by omega) W
  have u := ix_up w h3
  have dn := ix_dn w h3
  obtain ⟨jl, hjl⟩ : ∃ j : Nat, (j : Int) = (ix w x y : Int) - 1 := ⟨(ix w x y) - 1, by omega⟩
  obtain ⟨jr, hjr⟩ : ∃ j : Nat, (j : Int) = (ix w x y : Int) + 1 := ⟨(ix w x y) + 1, by omega⟩
  obtain ⟨ju, hju⟩ : ∃ j : Nat, (j : Int) = (ix w x y : Int) - ((w : Int) + 2) := ⟨(ix w x y) - (w + 2), by omega⟩
  obtain ⟨jd, hjd⟩ : ∃ j : Nat, (j : Int) = (ix w x y : Int) + ((w : Int) + 2) := ⟨(ix w x y) + (w + 2), by omega⟩
  have kl := sign_c H (x - 1) y jl (by omega) (by omega) (by omega)
  have kr := sign_c H (x + 1) y jr (by omega) (by omega) (by omega)
  have ku := sign_c H x (y - 1) ju (by omega) (by omega) (by omega)
  have kd := sign_c H x (y + 1) jd (by omega) (by omega) (by omega)
  have w1 : IntKind.i64.wrap ((ix w x y : Int) - 1) = (jl : Int) := by rw [IntWalk.i64_left]; unfold wrap64; omega
  have w2 : IntKind.i64.wrap ((ix w x y : Int) + 1) = (jr : Int) := by rw [IntWalk.i64_left]; unfold wrap64; omega
  have w3 : IntKind.i64.wrap ((ix w x y : Int) - ((w : Int) + 2)) = (ju : Int) := by rw [IntWalk.i64_left]; unfold wrap64; omega
  have w4 : IntKind.i64.wrap ((ix w x y : Int) + ((w : Int) + 2)) = (jd : Int) := by rw [IntWalk.i64_left]; unfold wrap64; omega
  have jh := fun W => joint_c (sg q (x - 1) y) (sg q (x + 1) y) (sg_in _ _ _) (sg_in _ _ _) W
  have jv0 := fun W => joint_c (sg q x (y - 1)) 0 (sg_in _ _ _) ⟨by decide, by decide⟩ W
  have jv1 := fun W => joint_c (sg q x (y - 1)) (sg q x (y + 1)) (sg_in _ _ _) (sg_in _ _ _) W
  unfold sgH sgV
  generalize sg q (x - 1) y = g1 at *
  generalize sg q (x + 1) y = g2 at *
  generalize sg q x (y - 1) = g3 at *
  generalize sg q x (y + 1) = g4 at *
  generalize jnt g1 g2 = JH at *
  generalize hid y c = hc at *
  generalize ix w x y = i at *
  clear H e u dn hjl hjr hju hjd c1 c2 c3 c4 c5 c6 s1 s2 hf1 hf2 h1 h2 h3 h4
  cases hc with
  | true =>
    rw [if_pos rfl]
    generalize jnt g3 0 = JV at *
    go_enter Tryd.func128, Tryd.ntmps128
    go_wp2_with (first | (go_at_call 85; (with_reducible refine f.mono ?_); rintro e wn ⟨rfl, rfl⟩) | (go_at_call 125; (with_reducible refine (hd _).mono ?_); rintro e wn ⟨rfl, rfl⟩) | (go_at_call 110; (with_reducible refine rw0.mono ?_); rintro e wn ⟨rfl, rfl⟩) | (go_at_call 140; first | ((with_reducible refine kl.mono ?_); rintro e wn ⟨rfl, rfl⟩) | ((with_reducible refine kr.mono ?_); rintro e wn ⟨rfl, rfl⟩) | ((with_reducible refine ku.mono ?_); rintro e wn ⟨rfl, rfl⟩)) | (go_at_call 141; first | ((with_reducible refine (jh _).mono ?_); rintro e wn ⟨rfl, rfl⟩) | ((with_reducible refine (jv0 _).mono ?_); rintro e wn ⟨rfl, rfl⟩)))
    go_ret2
    exact ⟨rfl, rfl⟩
  | false =>
    rw [if_neg (by decide)]
    generalize jnt g3 g4 = JV at *
    go_enter Tryd.func128, Tryd.ntmps128
    go_wp2_with (first | (go_at_call 85; (with_reducible refine f.mono ?_); rintro e wn ⟨rfl, rfl⟩) | (go_at_call 125; (with_reducible refine (hd _).mono ?_); rintro e wn ⟨rfl, rfl⟩) | (go_at_call 110; (with_reducible refine rw0.mono ?_); rintro e wn ⟨rfl, rfl⟩) | (go_at_call 140; first | ((with_reducible refine kl.mono ?_); rintro e wn ⟨rfl, rfl⟩) | ((with_reducible refine kr.mono ?_); rintro e wn ⟨rfl, rfl⟩) | ((with_reducible refine ku.mono ?_); rintro e wn ⟨rfl, rfl⟩) | ((with_reducible refine kd.mono ?_); rintro e wn ⟨rfl, rfl⟩)) | (go_at_call 141; first | ((with_reducible refine (jh _).mono ?_); rintro e wn ⟨rfl, rfl⟩) | ((with_reducible refine (jv1 _).mono ?_); rintro e wn ⟨rfl, rfl⟩)))
    go_ret2
    exact ⟨rfl, rfl⟩
theorem sgs_c (H : Cb W B A V S T R w h q) (x y : Int) (c : Bool) : Calls Tryd.prog 128 #[.pointer (some ⟨A, 0, none⟩), .int .i64 x, .int .i64 y, .bool c] W (SGives (if inB w h x y then sgH q x y else 0) (if inB w h x y then sgV q x y c else 0) W) := by
  by_cases hin : inB w h x y
  · rw [if_pos hin, if_pos hin]; exact sgs_y H x y c hin
  · rw [if_neg hin, if_neg hin]; exact sgs_o H x y c hin
end
end Go.Proofs.YtbhjapgioaiocaaDoor
