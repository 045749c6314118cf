/-
  For all headers and parameters the statement ParamsIgnores returns true.
  Conditions: none beyond those of the given statement.
-/
import Derived.Test.YtkcjbehfhcmiaaaHz2
import Derived.Test.YtkcjbehfhcmiaaaHg
import Derived.Test.YtkcjbehfhcmiaaaJp
import Derived.Test.YtkcjbehfhcmiaaaJo
import Derived.Test.YtkcjbehfhcmiaaaJm
set_option maxRecDepth 100000
namespace Go.Proofs.Ytkcjbehfhcmiaaa.paramsIgnores
open Go.ChangeShapes Go.WideShapes Go.ChangeAt Go.RowKit Go.Joins Go.Deep

/-- What the walk keeps in memory: the arguments' boxes, the copy's. -/
structure IgS (W : World) (h : Hp.Hd) (p q : Hp.Ps) (s : Option Addr) (m : Nat) (t : Option Addr) (n : Nat) (t2 : Option Addr) (n2 : Nat) (x1 : Option Addr) (y1 : Nat) (x2 : Option Addr) (y2 : Nat) (gA : Nat) (s' : Option Addr) (m' : Nat) (t' : Option Addr) (n' : Nat) (u' : Option Addr) (j' : Nat) (cs : List Hp.Cm) (r : Hp.Ps) (w : World) : Prop where
  bl : Below W.heap.size W w
  bh : Blk w W.heap.size 26 (hvA h s m)
  bp : Blk w (W.heap.size + 1) 35 (pvA p t n t2 n2)
  bq : Blk w (W.heap.size + 1 + 1) 35 (pvA q x1 y1 x2 y2)
  ba : Blk w gA 26 (hvA h s' m')
  br : Blk w (gA + 1) 35 (pvA r t' n' u' j')
  hC : HoldsC w s h.cs
  hP : HoldsP w t p.prec
  hS : HoldsI w t2 p.steps
  oC : OwnG cmV 56 w W.heap.size s' cs
  oP : OwnG ptV 41 w W.heap.size t' p.prec
  oS : OwnG inV 3 w W.heap.size u' p.steps
  ga : W.heap.size + 1 + 1 < gA
theorem IgS.below {W w w' : World} {h : Hp.Hd} {p q : Hp.Ps} {s : Option Addr} {m : Nat} {t : Option Addr} {n : Nat} {t2 : Option Addr} {n2 : Nat} {x1 : Option Addr} {y1 : Nat} {x2 : Option Addr} {y2 : Nat} {gA : Nat} {s' : Option Addr} {m' : Nat} {t' : Option Addr} {n' : Nat} {u' : Option Addr} {j' : Nat} {cs : List Hp.Cm} {r : Hp.Ps} (a : IgS W h p q s m t n t2 n2 x1 y1 x2 y2 gA s' m' t' n' u' j' cs r w) (hb : Below w.heap.size w w') : IgS W h p q s m t n t2 n2 x1 y1 x2 y2 gA s' m' t' n' u' j' cs r w' :=
  ⟨a.bl.trans (hb.mono a.bl.size), a.bh.below hb, a.bp.below hb, a.bq.below hb, a.ba.below hb, a.br.below hb, a.hC.below hb (Nat.le_refl _), a.hP.below hb (Nat.le_refl _), a.hS.below hb (Nat.le_refl _), a.oC.below hb, a.oP.below hb, a.oS.below hb, a.ga⟩
/-- What stands before the copy. -/
structure IgP (W : World) (h : Hp.Hd) (p q : Hp.Ps) (s : Option Addr) (m : Nat) (t : Option Addr) (n : Nat) (t2 : Option Addr) (n2 : Nat) (x1 : Option Addr) (y1 : Nat) (x2 : Option Addr) (y2 : Nat) (w : World) : Prop where
  bl : Below W.heap.size W w
  bh : Blk w W.heap.size 26 (hvA h s m)
  bp : Blk w (W.heap.size + 1) 35 (pvA p t n t2 n2)
  bq : Blk w (W.heap.size + 1 + 1) 35 (pvA q x1 y1 x2 y2)
  hC : HoldsC w s h.cs
  hP : HoldsP w t p.prec
  hS : HoldsI w t2 p.steps
theorem IgP.below {W w w' : World} {h : Hp.Hd} {p q : Hp.Ps} {s : Option Addr} {m : Nat} {t : Option Addr} {n : Nat} {t2 : Option Addr} {n2 : Nat} {x1 : Option Addr} {y1 : Nat} {x2 : Option Addr} {y2 : Nat} (a : IgP W h p q s m t n t2 n2 x1 y1 x2 y2 w) (hb : Below w.heap.size w w') : IgP W h p q s m t n t2 n2 x1 y1 x2 y2 w' :=
  ⟨a.bl.trans (hb.mono a.bl.size), a.bh.below hb, a.bp.below hb, a.bq.below hb, a.hC.below hb (Nat.le_refl _), a.hP.below hb (Nat.le_refl _), a.hS.below hb (Nat.le_refl _)⟩
theorem OwnG.farBlk {α : Type} {f : α → List Value} {T T' : TypeId} {B : Nat} {w : World} {a : Option Addr} {l : List α} {g o : Nat} {cs : Array Value} (h : OwnG f T w B a l) (hb : Blk w g T' cs) (hne : T ≠ T') (u : Value) : OwnG f T (w.setCell ⟨g, o, none⟩ u) B a l := by
  rcases h with h | ⟨g', pad, rfl, hB, hr⟩
  · exact .inl h
  · exact .inr ⟨g', pad, rfl, hB, hr.far (p := ⟨g, o, none⟩) (hr.ne hb hne) u⟩
def w3_of (w : World) (a b : Array Value) : World := (((w.alloc (.cells zeroH 26)).alloc (.cells zeroP 35)).setRow w.heap.size a).setRow (w.heap.size + 1) b
theorem w3_is (w : World) (a b : Array Value) : w3_of w a b = (((w.alloc (.cells #[.int .i64 0, .int .i64 0, .int .i64 0, .int .i64 0, .int .i64 0, .int .i64 0, .slice none 0 0] 26)).alloc (.cells #[.int .i64 0, .int .i64 0, .int .i64 0, .int .i64 0, .int .i64 0, .slice none 0 0, .int .i64 0, .int .i64 0, .bool false, .bool false, .bool false, .bool false, .bool false, .bool false, .bool false, .bool false, .slice none 0 0, .int .i64 0, .int .i64 0] 35)).setRow w.heap.size a).setRow (w.heap.size + 1) b := rfl
theorem zh_new (w : World) : Blk ((w.alloc (.cells zeroH 26)).alloc (.cells zeroP 35)) w.heap.size 26 zeroH := (Blk.new w 26 zeroH).alloc _
theorem zp_new (w : World) (a : Array Value) : Blk (((w.alloc (.cells zeroH 26)).alloc (.cells zeroP 35)).setRow w.heap.size a) (w.heap.size + 1) 35 zeroP := by
  have := Blk.new (w.alloc (.cells zeroH 26)) 35 zeroP
  exact Blk.rowFar (show Blk _ (w.heap.size + 1) _ _ by simpa using this) (by omega) _
theorem w3_a (w : World) (a b : Array Value) : Blk (w3_of w a b) w.heap.size 26 a := Blk.rowFar (setRow_heap _ _ _ _ _ _ (zh_new w)) (by omega) _
theorem w3_b (w : World) (a b : Array Value) : Blk (w3_of w a b) (w.heap.size + 1) 35 b := setRow_heap _ _ _ _ _ _ (zp_new w a)
theorem w3_below (w : World) (a b : Array Value) : Below w.heap.size w (w3_of w a b) := below_setRow (below_setRow (below_alloc (below_alloc (Below.refl _ _) (Nat.le_refl _) _) (by simp) _) (Nat.le_refl _) _) (by omega) _
theorem hv_flip (h : Hp.Hd) (s : Option Addr) (m : Nat) : hvA (flH h) s m = hvA h s m := by simp [hvA, flH]
theorem info5 : (Try.prog.info? 32).map (·.size) = some 5 := by kernel_rfl
theorem one5 (a b c d e : Bool) : (#[.bool a, .bool b, .bool c, .bool d, .bool e] : Array Value).all (·.oneCell') = true := by simp [Value.oneCell']
theorem rng5 {w : World} {g : Nat} {q : Hp.Ps} {x1 : Option Addr} {y1 : Nat} {x2 : Option Addr} {y2 : Nat} (h : Blk w g 35 (pvA q x1 y1 x2 y2)) : w.rangeAt g 8 [.bool q.m0, .bool q.m1, .bool q.m2, .bool q.m3, .bool q.m4] := fun j v hv => by
  match j, hv with
  | 0, hv => simp at hv; subst hv; exact h.get 8 rfl
  | 1, hv => simp at hv; subst hv; exact h.get 9 rfl
  | 2, hv => simp at hv; subst hv; exact h.get 10 rfl
  | 3, hv => simp at hv; subst hv; exact h.get 11 rfl
  | 4, hv => simp at hv; subst hv; exact h.get 12 rfl
theorem thr5 {w : World} {g : Nat} {q : Hp.Ps} {x1 : Option Addr} {y1 : Nat} {x2 : Option Addr} {y2 : Nat} (h : Blk w g 35 (pvA q x1 y1 x2 y2)) : w.there g 8 5 := fun j hj => by
  refine ⟨?_, h.free _⟩
  match j, hj with
  | 0, _ => rw [h.get 8 (v := .bool q.m0) rfl]; rfl
  | 1, _ => rw [h.get 9 (v := .bool q.m1) rfl]; rfl
  | 2, _ => rw [h.get 10 (v := .bool q.m2) rfl]; rfl
  | 3, _ => rw [h.get 11 (v := .bool q.m3) rfl]; rfl
  | 4, _ => rw [h.get 12 (v := .bool q.m4) rfl]; rfl
theorem set5 {w : World} {g : Nat} {T : TypeId} {cs : Array Value} (h : Blk w g T cs) (a b c d e : Value) : Blk (w.setCells g 8 [a, b, c, d, e]) g T (((((cs.setIfInBounds 8 a).setIfInBounds 9 b).setIfInBounds 10 c).setIfInBounds 11 d).setIfInBounds 12 e) := ((((h.set 8 a).set 9 b).set 10 c).set 11 d).set 12 e
theorem far5 {w : World} {g k : Nat} {T : TypeId} {cs : Array Value} (h : Blk w g T cs) (hn : g ≠ k) (a b c d e : Value) : Blk (w.setCells k 8 [a, b, c, d, e]) g T cs := ((((h.far (p := ⟨k, 8, none⟩) hn a).far (p := ⟨k, 9, none⟩) hn b).far (p := ⟨k, 10, none⟩) hn c).far (p := ⟨k, 11, none⟩) hn d).far (p := ⟨k, 12, none⟩) hn e
theorem pv_opt (p q : Hp.Ps) (t u : Option Addr) (n j : Nat) : ((((((((pvA p t n u j).setIfInBounds 8 (.bool q.m0)).setIfInBounds 9 (.bool q.m1)).setIfInBounds 10 (.bool q.m2)).setIfInBounds 11 (.bool q.m3)).setIfInBounds 12 (.bool q.m4)).setIfInBounds 13 (.bool q.dv)).setIfInBounds 14 (.bool q.sy)).setIfInBounds 15 (.bool q.fe) = pvA (optP p q) t n u j := by
  simp [pvA, optP]
theorem ig_opt {W wr w9 : World} {h : Hp.Hd} {p q : Hp.Ps} {s : Option Addr} {m : Nat} {t : Option Addr} {n : Nat} {t2 : Option Addr} {n2 : Nat} {x1 : Option Addr} {y1 : Nat} {x2 : Option Addr} {y2 : Nat} {gA : Nat} {s' : Option Addr} {m' : Nat} {t' : Option Addr} {n' : Nat} {u' : Option Addr} {j' : Nat} {cs : List Hp.Cm} (HC0 : HoldsC W s h.cs) (HP0 : HoldsP W t p.prec) (HS0 : HoldsI W t2 p.steps)
    (HA9 : IgS W h p q s m t n t2 n2 x1 y1 x2 y2 gA s' m' t' n' u' j' cs p wr) (hw9 : w9 = (((((((wr.drew.setCell ⟨gA + 1, 8, none⟩ (.bool q.m0)).setCell ⟨gA + 1, 9, none⟩ (.bool q.m1)).setCell ⟨gA + 1, 10, none⟩ (.bool q.m2)).setCell ⟨gA + 1, 11, none⟩ (.bool q.m3)).setCell ⟨gA + 1, 12, none⟩ (.bool q.m4)).setCell ⟨gA + 1, 13, none⟩ (.bool q.dv)).setCell ⟨gA + 1, 14, none⟩ (.bool q.sy)).setCell ⟨gA + 1, 15, none⟩ (.bool q.fe)) :
    IgS W h p q s m t n t2 n2 x1 y1 x2 y2 gA s' m' t' n' u' j' cs (optP p q) w9 := by
    have hg := HA9.bl.size
    have hga := HA9.ga
    have hb : Below W.heap.size W w9 := by
      rw [hw9]
      exact ((((((((HA9.bl.drew.setCell (p := ⟨gA + 1, 8, none⟩) (by show W.heap.size ≤ gA + 1; omega) _).setCell (p := ⟨gA + 1, 9, none⟩) (by show W.heap.size ≤ gA + 1; omega) _).setCell (p := ⟨gA + 1, 10, none⟩) (by show W.heap.size ≤ gA + 1; omega) _).setCell (p := ⟨gA + 1, 11, none⟩) (by show W.heap.size ≤ gA + 1; omega) _).setCell (p := ⟨gA + 1, 12, none⟩) (by show W.heap.size ≤ gA + 1; omega) _).setCell (p := ⟨gA + 1, 13, none⟩) (by show W.heap.size ≤ gA + 1; omega) _).setCell (p := ⟨gA + 1, 14, none⟩) (by show W.heap.size ≤ gA + 1; omega) _).setCell (p := ⟨gA + 1, 15, none⟩) (by show W.heap.size ≤ gA + 1; omega) _)
    have far : ∀ {g : Nat} {T : TypeId} {cs : Array Value}, Blk wr g T cs → g ≠ gA + 1 → Blk w9 g T cs := by
      intro g T cs hh hn
      rw [hw9]
      exact (((((((hh.drew.far (p := ⟨gA + 1, 8, none⟩) hn _).far (p := ⟨gA + 1, 9, none⟩) hn _).far (p := ⟨gA + 1, 10, none⟩) hn _).far (p := ⟨gA + 1, 11, none⟩) hn _).far (p := ⟨gA + 1, 12, none⟩) hn _).far (p := ⟨gA + 1, 13, none⟩) hn _).far (p := ⟨gA + 1, 14, none⟩) hn _).far (p := ⟨gA + 1, 15, none⟩) hn _
    have ofar : ∀ {α : Type} {f : α → List Value} {T : TypeId} {a : Option Addr} {l : List α}, OwnG f T wr W.heap.size a l → T ≠ 35 → OwnG f T w9 W.heap.size a l := by
      intro α f T a l ho hT
      rcases ho with z | ⟨g, pad, rfl, hB, hr⟩
      · exact .inl z
      · exact .inr ⟨g, pad, rfl, hB, far hr (hr.ne HA9.br hT)⟩
    refine ⟨hb, far HA9.bh (HA9.bh.ne HA9.br (by decide)), far HA9.bp (by omega), far HA9.bq (by omega), far HA9.ba (HA9.ba.ne HA9.br (by decide)), ?_, HC0.below hb (Nat.le_refl _), HP0.below hb (Nat.le_refl _), HS0.below hb (Nat.le_refl _), ofar HA9.oC (by decide), ofar HA9.oP (by decide), ofar HA9.oS (by decide), hga⟩
    rw [hw9, ← pv_opt p q t' u' n' j']
    exact (((((((HA9.br.drew.set 8 (.bool q.m0)).set 9 (.bool q.m1)).set 10 (.bool q.m2)).set 11 (.bool q.m3)).set 12 (.bool q.m4)).set 13 (.bool q.dv)).set 14 (.bool q.sy)).set 15 (.bool q.fe)
set_option maxHeartbeats 16000000 in
theorem walk (h : Hp.Hd) (p q : Hp.Ps) (s : Option Addr) (m : Nat) (t : Option Addr) (n : Nat) (t2 : Option Addr) (n2 : Nat) (x1 : Option Addr) (y1 : Nat) (x2 : Option Addr) (y2 : Nat) (W : World) (hC : HoldsC W s h.cs) (hP : HoldsP W t p.prec) (hS : HoldsI W t2 p.steps) (c1 : capOk s h.cs.length m) (c2 : capOk t p.prec.length n) (c3 : capOk t2 p.steps.length n2) :
    Calls Try.prog 8 #[.agg (hvA h s m), .agg (pvA p t n t2 n2), .agg (pvA q x1 y1 x2 y2)] W fun e w' => e = .returned (.bool true) ∧ Below W.heap.size W w' := by
  obtain ⟨WB, hWB⟩ : ∃ ww, ww = (((W.alloc (.cells (hvA h s m) 26)).alloc (.cells (pvA p t n t2 n2) 35)).alloc (.cells (pvA q x1 y1 x2 y2) 35)) := ⟨_, rfl⟩
  have hb0 : Below W.heap.size W WB := by rw [hWB]; exact below_alloc (below_alloc (below_alloc (Below.refl _ W) (Nat.le_refl _) _) (by simp) _) (by simp <;> omega) _
  have n1 := Blk.new W 26 (hvA h s m)
  have n2' := Blk.new (W.alloc (.cells (hvA h s m) 26)) 35 (pvA p t n t2 n2)
  have n3 := Blk.new ((W.alloc (.cells (hvA h s m) 26)).alloc (.cells (pvA p t n t2 n2) 35)) 35 (pvA q x1 y1 x2 y2)
  have q1 : Blk WB W.heap.size 26 (hvA h s m) := by rw [hWB]; exact (n1.alloc _).alloc _
  have q2 : Blk WB (W.heap.size + 1) 35 (pvA p t n t2 n2) := by rw [hWB]; exact (show Blk _ (W.heap.size + 1) _ _ by simpa using n2').alloc _
  have q3 : Blk WB (W.heap.size + 1 + 1) 35 (pvA q x1 y1 x2 y2) := by rw [hWB]; exact (show Blk _ (W.heap.size + 1 + 1) _ _ by simpa using n3)
  have A0 := Lib.hid (show IgP W h p q s m t n t2 n2 x1 y1 x2 y2 WB from ⟨hb0, q1, q2, q3, hC.below hb0 (Nat.le_refl _), hP.below hb0 (Nat.le_refl _), hS.below hb0 (Nat.le_refl _)⟩)
  have KF := Lib.hid (fun w : World => few_c h p s t t2 m n n2 w)
  have HW2 := hWB
  have HC0 := Lib.hid hC
  have HP0 := Lib.hid hP
  have HS0 := Lib.hid hS
  clear n1 n2' n3 q1 q2 q3 hb0 hWB hC hP hS
  show Calls Try.prog 8 #[.agg #[.int .i64 h.a, .int .i64 h.b, .int .i64 h.c, .int .i64 h.d, .int .i64 h.tw, .int .i64 h.th, .slice s h.cs.length m], .agg #[.int .i64 p.kern, .int .i64 p.lev, .int .i64 p.col, .int .i64 p.bx, .int .i64 p.yb, .slice t p.prec.length n, .int .i64 p.ord, .int .i64 p.lay, .bool p.m0, .bool p.m1, .bool p.m2, .bool p.m3, .bool p.m4, .bool p.dv, .bool p.sy, .bool p.fe, .slice t2 p.steps.length n2, .int .i64 p.dead, .int .i64 p.sh], .agg #[.int .i64 q.kern, .int .i64 q.lev, .int .i64 q.col, .int .i64 q.bx, .int .i64 q.yb, .slice x1 q.prec.length y1, .int .i64 q.ord, .int .i64 q.lay, .bool q.m0, .bool q.m1, .bool q.m2, .bool q.m3, .bool q.m4, .bool q.dv, .bool q.sy, .bool q.fe, .slice x2 q.steps.length y2, .int .i64 q.dead, .int .i64 q.sh]] W _
  unfold hvA pvA at HW2
  by_cases hf : fewB h p = true
  · rw [hf] at KF
    have hlen := of_decide_eq_true (show decide (h.cs.length ≤ 10 ∧ p.steps.length ≤ 40 ∧ p.prec.length ≤ 40) = true from hf)
    have HLEN := Lib.hid hlen
    clear hf hlen
    have KC := Lib.hid (fun (w : World) (a : IgP W h p q s m t n t2 n2 x1 y1 x2 y2 w) => clone23_c h p s t t2 m n n2 w (by have := HLEN.out; omega) (by have := HLEN.out; omega) (by have := HLEN.out; omega) a.hC a.hP a.hS c1 c2 c3)
    clear c1 c2 c3
    go_enter Try.func8, Try.ntmps8
    go_upto_region 1 with fail
    rw [← HW2]
    clear HW2
    go_upto_region 3 with (first | (refine wpList_load_mid rfl 26 (.tmp 3) rfl W.heap.size 0 rfl (hvA h s m).toList _ A0.out.bh.range Try.underlying26 rfl info7 ?_) | (refine wpList_load_mid rfl 35 (.tmp 4) rfl (W.heap.size + 1) 0 rfl (pvA p t n t2 n2).toList _ A0.out.bp.range Try.underlying35 rfl info19 ?_) | (go_at_call 9; (with_reducible refine (KF.out _).mono ?_); rintro e w1 ⟨rfl, hb1⟩; have A1 := Lib.hid (A0.out.below hb1); clear hb1) | fail)
    clear A0 KF
    go_upto_region 4 with (first | (refine wpList_load_mid rfl 26 (.tmp 3) rfl W.heap.size 0 rfl (hvA h s m).toList _ A1.out.bh.range Try.underlying26 rfl info7 ?_) | (refine wpList_load_mid rfl 35 (.tmp 4) rfl (W.heap.size + 1) 0 rfl (pvA p t n t2 n2).toList _ A1.out.bp.range Try.underlying35 rfl info19 ?_) | (go_at_call 21; (with_reducible refine (KC.out _ A1.out).mono ?_); rintro e w2 ⟨s', m', t', n', u', j', rfl, hcap, hO1, hO2, hO3, hb2⟩; have A2 := Lib.hid (A1.out.below hb2); have C2 := Lib.hid hcap; have O1 := Lib.hid (hO1.less A1.out.bl.size); have O2 := Lib.hid (hO2.less A1.out.bl.size); have O3 := Lib.hid (hO3.less A1.out.bl.size); clear hb2 hcap hO1 hO2 hO3; have HZ1 := Lib.hid (zh_new w2); have HZ2 := Lib.hid (zp_new w2 (hvA h s' m')); have HW3 := Lib.hid (w3_is w2 (hvA h s' m') (pvA p t' n' u' j')); obtain ⟨w3, hw3⟩ : ∃ x, x = w3_of w2 (hvA h s' m') (pvA p t' n' u' j') := ⟨_, rfl⟩; rw [← hw3] at HW3; have H3 := Lib.hid hw3; clear hw3) | (refine wpList_store_row (by rfl) 26 (.tmp 7) (.tmp 19) (by rfl) w2.heap.size (hvA h s' m') (by rfl) (by rfl) 26 zeroH HZ1.out info7 (by rfl) (one7 _ _ _) ?_) | (refine wpList_store_row (by rfl) 35 (.tmp 8) (.tmp 20) (by rfl) (w2.heap.size + 1) (pvA p t' n' u' j') (by rfl) (by rfl) 35 zeroP HZ2.out info19 (by rfl) (one19 _ _ _ _ _) ?_; rw [← HW3.out]; try simp only [Act.put]) | fail)
    have A3 := Lib.hid (show IgS W h p q s m t n t2 n2 x1 y1 x2 y2 w2.heap.size s' m' t' n' u' j' h.cs p w3 from by
      have a := A2.out
      have hb : Below w2.heap.size w2 w3 := by rw [H3.out]; exact w3_below _ _ _
      exact ⟨a.bl.trans (hb.mono a.bl.size), a.bh.below hb, a.bp.below hb, a.bq.below hb, by rw [H3.out]; exact w3_a _ _ _, by rw [H3.out]; exact w3_b _ _ _, a.hC.below hb (Nat.le_refl _), a.hP.below hb (Nat.le_refl _), a.hS.below hb (Nat.le_refl _), O1.out.below hb, O2.out.below hb, O3.out.below hb, a.bq.lt⟩)
    clear HW3 H3 HZ1 HZ2 O1 O2 O3 A2 A1 KC C2
    obtain ⟨gA, hgA⟩ : ∃ g, w2.heap.size = g := ⟨_, rfl⟩
    rw [hgA] at A3 ⊢
    clear hgA
    have y6 := A3.out.ba.get 6 (v := .slice s' h.cs.length m') rfl
    go_upto_region 5 with fail
    clear y6
    go_loopw [9, 24] (fun _ i wr => ∃ k : Nat, k ≤ h.cs.length ∧ i = .int .i64 k ∧ Hid (IgS W h p q s m t n t2 n2 x1 y1 x2 y2 gA s' m' t' n' u' j' (fst flp k h.cs) p wr)) (fun _ i _ => h.cs.length - (intOf i).toNat)
    case atStart => exact ⟨0, Nat.zero_le _, rfl, Lib.hid (by rw [fst_zero]; exact A3.out)⟩
    case round =>
      obtain ⟨k, hk, rfl, HA⟩ := hrel
      clear A3
      by_cases hlt : k < h.cs.length
      case neg =>
        obtain rfl : k = h.cs.length := by omega
        rw [fst_all] at HA
        have HA9 := HA.out
        go_upto_region 9 with fail
        have K9 := Lib.hid (show (fun w => Blk w (W.heap.size + 1 + 1) 35 (pvA q x1 y1 x2 y2)) wr.drew from HA9.bq.drew)
        have hq9 : W.heap.size + 1 + 1 ≠ gA + 1 := by have := HA9.ga; omega
        have RT := Lib.hid (thr5 HA9.br.drew)
        obtain ⟨v1, hv1⟩ : ∃ x, x = wr.drew.setCells (gA + 1) 8 [.bool q.m0, .bool q.m1, .bool q.m2, .bool q.m3, .bool q.m4] := ⟨_, rfl⟩
        obtain ⟨v2, hv2⟩ : ∃ x, x = v1.setCell ⟨gA + 1, 13, none⟩ (.bool q.dv) := ⟨_, rfl⟩
        obtain ⟨v3, hv3⟩ : ∃ x, x = v2.setCell ⟨gA + 1, 14, none⟩ (.bool q.sy) := ⟨_, rfl⟩
        obtain ⟨w9, hw9⟩ : ∃ x, x = v3.setCell ⟨gA + 1, 15, none⟩ (.bool q.fe) := ⟨_, rfl⟩
        have g1 := set5 HA9.br.drew (.bool q.m0) (.bool q.m1) (.bool q.m2) (.bool q.m3) (.bool q.m4)
        rw [← hv1] at g1
        have g2 := g1.set 13 (.bool q.dv)
        rw [← hv2] at g2
        have g3 := g2.set 14 (.bool q.sy)
        rw [← hv3] at g3
        have T1 := Lib.hid (show Blk v1 (W.heap.size + 1 + 1) 35 (pvA q x1 y1 x2 y2) by rw [hv1]; exact far5 HA9.bq.drew hq9 _ _ _ _ _)
        have T2 := Lib.hid (show Blk v2 (W.heap.size + 1 + 1) 35 (pvA q x1 y1 x2 y2) by rw [hv2]; exact T1.out.far (p := ⟨gA + 1, 13, none⟩) hq9 _)
        have T3 := Lib.hid (show Blk v3 (W.heap.size + 1 + 1) 35 (pvA q x1 y1 x2 y2) by rw [hv3]; exact T2.out.far (p := ⟨gA + 1, 14, none⟩) hq9 _)
        have T4 := Lib.hid (show Blk w9 (W.heap.size + 1 + 1) 35 (pvA q x1 y1 x2 y2) by rw [hw9]; exact T3.out.far (p := ⟨gA + 1, 15, none⟩) hq9 _)
        have z1 : v1.cell? ⟨gA + 1, 13, none⟩ = some (.bool p.dv) := g1.get 13 (by simp [pvA])
        have z2 : v2.cell? ⟨gA + 1, 14, none⟩ = some (.bool p.sy) := g2.get 14 (by simp [pvA])
        have z3 : v3.cell? ⟨gA + 1, 15, none⟩ = some (.bool p.fe) := g3.get 15 (by simp [pvA])
        have zf1 := g1.free 13
        have zf2 := g2.free 14
        have zf3 := g3.free 15
        have A9 := Lib.hid (ig_opt HC0.out HP0.out HS0.out HA9 (show w9 = _ by rw [hw9, hv3, hv2, hv1]; rfl))
        have V1 := Lib.hid hv1
        have V2 := Lib.hid hv2
        have V3 := Lib.hid hv3
        have V4 := Lib.hid hw9
        clear hw9 hv1 hv2 hv3 g1 g2 g3 HA9 HA
        refine wp_region_held_drew (S := (fun w => Blk w (W.heap.size + 1 + 1) 35 (pvA q x1 y1 x2 y2))) (by kernel_rfl) (by (try dsimp only); exact K9.out) (fun hHeld => ?_)
        refine takeD (i := 0) (oi := _) (some 40) (v := ?_) rfl rfl (by kernel_rfl) (by kernel_rfl) (by kernel_rfl) (fun _ _ _ h => h) (Or.inl ⟨by rfl, ?_⟩) (by assumption) ?_
        rotate_left
        · (intro w hSw; (try dsimp only at hSw); go_simp; try with_reducible rfl)
        simp only [Act.put, List.setIfInBounds_toArray, List.set]
        refine takeD (i := 1) (oi := _) (some 41) (v := .agg #[.bool q.m0, .bool q.m1, .bool q.m2, .bool q.m3, .bool q.m4]) rfl rfl (by kernel_rfl) (by kernel_rfl) (by kernel_rfl) (fun _ _ _ h => h) (yieldsIf_load_mid (by rfl) 32 (.tmp 40) rfl (W.heap.size + 1 + 1) 8 rfl [.bool q.m0, .bool q.m1, .bool q.m2, .bool q.m3, .bool q.m4] _ (fun w hw => rng5 hw) Try.underlying32 rfl info5) (by assumption) ?_
        simp only [Act.put, List.setIfInBounds_toArray, List.set]
        refine takeD (i := 2) (oi := _) (some 42) (v := ?_) rfl rfl (by kernel_rfl) (by kernel_rfl) (by kernel_rfl) (fun _ _ _ h => h) (Or.inl ⟨by rfl, ?_⟩) (by assumption) ?_
        rotate_left
        · (intro w hSw; (try dsimp only at hSw); go_simp; try with_reducible rfl)
        simp only [Act.put, List.setIfInBounds_toArray, List.set]
        refine takeD (i := 3) (oi := _) (some 43) (v := .bool q.dv) rfl rfl (by kernel_rfl) (by kernel_rfl) (by kernel_rfl) (fun _ _ _ h => h) (Or.inl ⟨by rfl, fun w hSw => by have z := hSw.get 13 (v := .bool q.dv) rfl; clear hSw; go_simp⟩) (by assumption) ?_
        simp only [Act.put, List.setIfInBounds_toArray, List.set]
        refine takeD (i := 4) (oi := _) (some 44) (v := ?_) rfl rfl (by kernel_rfl) (by kernel_rfl) (by kernel_rfl) (fun _ _ _ h => h) (Or.inl ⟨by rfl, ?_⟩) (by assumption) ?_
        rotate_left
        · (intro w hSw; (try dsimp only at hSw); go_simp; try with_reducible rfl)
        simp only [Act.put, List.setIfInBounds_toArray, List.set]
        refine takeD (i := 5) (oi := _) (some 45) (v := .bool q.sy) rfl rfl (by kernel_rfl) (by kernel_rfl) (by kernel_rfl) (fun _ _ _ h => h) (Or.inl ⟨by rfl, fun w hSw => by have z := hSw.get 14 (v := .bool q.sy) rfl; clear hSw; go_simp⟩) (by assumption) ?_
        simp only [Act.put, List.setIfInBounds_toArray, List.set]
        refine takeD (i := 6) (oi := _) (some 46) (v := ?_) rfl rfl (by kernel_rfl) (by kernel_rfl) (by kernel_rfl) (fun _ _ _ h => h) (Or.inl ⟨by rfl, ?_⟩) (by assumption) ?_
        rotate_left
        · (intro w hSw; (try dsimp only at hSw); go_simp; try with_reducible rfl)
        simp only [Act.put, List.setIfInBounds_toArray, List.set]
        refine takeD (i := 7) (oi := _) (some 47) (v := .bool q.fe) rfl rfl (by kernel_rfl) (by kernel_rfl) (by kernel_rfl) (fun _ _ _ h => h) (Or.inl ⟨by rfl, fun w hSw => by have z := hSw.get 15 (v := .bool q.fe) rfl; clear hSw; go_simp⟩) (by assumption) ?_
        simp only [Act.put, List.setIfInBounds_toArray, List.set]
        refine takeD (i := 8) (oi := _) (some 48) (v := ?_) rfl rfl (by kernel_rfl) (by kernel_rfl) (by kernel_rfl) (fun _ _ _ h => h) (Or.inl ⟨by rfl, ?_⟩) (by assumption) ?_
        rotate_left
        · (intro w hSw; (try dsimp only at hSw); go_simp; try with_reducible rfl)
        simp only [Act.put, List.setIfInBounds_toArray, List.set]
        refine wpAnyH_ready (rs := [9]) (by kernel_rfl) (by simp) ?_
        refine AllReadyH.cons (o := _) rfl (fun K hK => ?_) AllReadyH.nil
        rw [if_pos (by rfl)]; refine wp_store_mid 32 (.tmp 48) (.tmp 41) rfl (gA + 1) 8 #[.bool q.m0, .bool q.m1, .bool q.m2, .bool q.m3, .bool q.m4] rfl rfl RT.out info5 (one5 _ _ _ _ _) ?_; rw [show (#[.bool q.m0, .bool q.m1, .bool q.m2, .bool q.m3, .bool q.m4] : Array Value).toList = [.bool q.m0, .bool q.m1, .bool q.m2, .bool q.m3, .bool q.m4] from rfl, ← V1.out]
        refine hK.out _ _ (by (try dsimp only); first | exact hHeld | exact T1.out | exact T2.out | exact T3.out | exact T4.out) (fun hHeld => ?_)
        clear hK K
        try simp only [Act.put, List.setIfInBounds_toArray]
        refine takeD (i := 10) (oi := _) (some 49) (v := ?_) rfl rfl (by kernel_rfl) (by kernel_rfl) (by kernel_rfl) (fun _ _ _ h => h) (Or.inl ⟨by rfl, ?_⟩) (by assumption) ?_
        rotate_left
        · (intro w hSw; (try dsimp only at hSw); go_simp; try with_reducible rfl)
        simp only [Act.put]
        refine wpAnyH_ready (rs := [11]) (by kernel_rfl) (by simp) ?_
        refine AllReadyH.cons (o := _) rfl (fun K hK => ?_) AllReadyH.nil
        go_simp; rw [← V2.out]
        refine hK.out _ _ (by (try dsimp only); first | exact hHeld | exact T1.out | exact T2.out | exact T3.out | exact T4.out) (fun hHeld => ?_)
        clear hK K
        try simp only [Act.put, List.setIfInBounds_toArray, List.set]
        refine takeD (i := 12) (oi := _) (some 50) (v := ?_) rfl rfl (by kernel_rfl) (by kernel_rfl) (by kernel_rfl) (fun _ _ _ h => h) (Or.inl ⟨by rfl, ?_⟩) (by assumption) ?_
        rotate_left
        · (intro w hSw; (try dsimp only at hSw); go_simp; try with_reducible rfl)
        simp only [Act.put, List.setIfInBounds_toArray, List.set]
        refine wpAnyH_ready (rs := [13]) (by kernel_rfl) (by simp) ?_
        refine AllReadyH.cons (o := _) rfl (fun K hK => ?_) AllReadyH.nil
        go_simp; rw [← V3.out]
        refine hK.out _ _ (by (try dsimp only); first | exact hHeld | exact T1.out | exact T2.out | exact T3.out | exact T4.out) (fun hHeld => ?_)
        clear hK K
        try simp only [Act.put, List.setIfInBounds_toArray, List.set]
        refine takeD (i := 14) (oi := _) (some 51) (v := ?_) rfl rfl (by kernel_rfl) (by kernel_rfl) (by kernel_rfl) (fun _ _ _ h => h) (Or.inl ⟨by rfl, ?_⟩) (by assumption) ?_
        rotate_left
        · (intro w hSw; (try dsimp only at hSw); go_simp; try with_reducible rfl)
        simp only [Act.put, List.setIfInBounds_toArray, List.set]
        refine wpAnyH_ready (rs := [15]) (by kernel_rfl) (by simp) ?_
        refine AllReadyH.cons (o := _) rfl (fun K hK => ?_) AllReadyH.nil
        go_simp; rw [← V4.out]
        refine hK.out _ _ (by (try dsimp only); first | exact hHeld | exact T1.out | exact T2.out | exact T3.out | exact T4.out) (fun hHeld => ?_)
        clear hK K
        try simp only [Act.put, List.setIfInBounds_toArray, List.set]
        refine wpAnyH_done (by kernel_rfl) ?_ _

        clear V1 V2 V3 V4 T1 T2 T3 T4 z1 z2 z3 zf1 zf2 zf3 hHeld K9 hq9 RT
        have HS := Lib.hid (A9.out.below (show Below w9.heap.size w9 w9.drew from (Below.refl _ _).drew))
        have H1 := Lib.hid (fun (w : World) (a : IgS W h p q s m t n t2 n2 x1 y1 x2 y2 gA s' m' t' n' u' j' (h.cs.map flp) (optP p q) w) => by
          have z := header_c (flH h) s' m' w (by simp only [flH, List.length_map]; have := HLEN.out; omega) (gC.2 a.oC.holds)
          rw [hv_flip, head_flip] at z
          exact z)
        have H2 := Lib.hid (fun (w : World) (a : IgS W h p q s m t n t2 n2 x1 y1 x2 y2 gA s' m' t' n' u' j' (h.cs.map flp) (optP p q) w) => header_c h s m w (by have := HLEN.out; omega) a.hC)
        have H3 := Lib.hid (fun (w : World) (a : IgS W h p q s m t n t2 n2 x1 y1 x2 y2 gA s' m' t' n' u' j' (h.cs.map flp) (optP p q) w) => by
          have z := check_c h (optP p q) s t' u' m n' j' w (by have := HLEN.out; omega) (by show p.prec.length ≤ _; have := HLEN.out; omega) (by show p.steps.length ≤ _; have := HLEN.out; omega) a.hC (gP.2 a.oP.holds) (gI.2 a.oS.holds)
          rw [chk_opt] at z
          exact z)
        have H4 := Lib.hid (fun (w : World) (a : IgS W h p q s m t n t2 n2 x1 y1 x2 y2 gA s' m' t' n' u' j' (h.cs.map flp) (optP p q) w) => check_c h p s t t2 m n n2 w (by have := HLEN.out; omega) (by have := HLEN.out; omega) (by have := HLEN.out; omega) a.hC a.hP a.hS)
        generalize Hp.headM h = HM at *
        generalize Hp.chkM h p = CM at *
        have s1 : (HM == HM) = true := by simp
        have s2' : (CM == CM) = true := by simp
        clear A9
        go_upto_region 10 with fail
        refine wp_region_held_drew (S := (fun w => IgS W h p q s m t n t2 n2 x1 y1 x2 y2 gA s' m' t' n' u' j' (h.cs.map flp) (optP p q) w)) (by kernel_rfl) (by (try dsimp only); exact HS.out) (fun hHeld => ?_)
        refine takeD (i := 0) (oi := _) (some 52) (v := .agg (hvA h s' m')) rfl rfl (by kernel_rfl) (by kernel_rfl) (by kernel_rfl) (fun _ _ _ h => h) (yieldsIf_load_mid (by rfl) 26 (.tmp 7) rfl gA 0 rfl (hvA h s' m').toList _ (fun w hw => hw.ba.range) Try.underlying26 rfl info7) (by assumption) ?_
        simp only [Act.put, List.setIfInBounds_toArray, List.set]
        refine takeD (i := 2) (oi := _) (some 54) (v := .agg (hvA h s m)) rfl rfl (by kernel_rfl) (by kernel_rfl) (by kernel_rfl) (fun _ _ _ h => h) (yieldsIf_load_mid (by rfl) 26 (.tmp 3) rfl W.heap.size 0 rfl (hvA h s m).toList _ (fun w hw => hw.bh.range) Try.underlying26 rfl info7) (by assumption) ?_
        simp only [Act.put, List.setIfInBounds_toArray, List.set]
        refine wpAnyH_ready (rs := [1]) (by kernel_rfl) (by simp) ?_
        refine AllReadyH.cons (o := _) rfl (fun K hK => ?_) AllReadyH.nil
        (go_simp; go_at_call 24; (with_reducible refine (H1.out _ hHeld).mono ?_); rintro e wn ⟨rfl, hbn⟩)
        refine hK.out _ _ (by (try dsimp only); first | exact hHeld | exact hHeld.below hbn) (fun hHeld => ?_)
        clear hK K
        try simp only [Act.put, List.setIfInBounds_toArray, List.set]
        refine wpAnyH_ready (rs := [3]) (by kernel_rfl) (by simp) ?_
        refine AllReadyH.cons (o := _) rfl (fun K hK => ?_) AllReadyH.nil
        (go_simp; go_at_call 24; (with_reducible refine (H2.out _ hHeld).mono ?_); rintro e wn ⟨rfl, hbn⟩)
        refine hK.out _ _ (by (try dsimp only); first | exact hHeld | exact hHeld.below hbn) (fun hHeld => ?_)
        clear hK K
        try simp only [Act.put, List.setIfInBounds_toArray, List.set]
        refine takeD (i := 4) (oi := _) (some 56) (v := ?_) rfl rfl (by kernel_rfl) (by kernel_rfl) (by kernel_rfl) (fun _ _ _ h => h) (Or.inl ⟨by rfl, ?_⟩) (by assumption) ?_
        rotate_left
        · (intro w hSw; (try dsimp only at hSw); go_simp; try with_reducible rfl)
        simp only [Act.put, List.setIfInBounds_toArray, List.set]
        refine takeD (i := 5) (oi := _) (some 57) (v := ?_) rfl rfl (by kernel_rfl) (by kernel_rfl) (by kernel_rfl) (fun _ _ _ h => h) (Or.inl ⟨by rfl, ?_⟩) (by assumption) ?_
        rotate_left
        · (intro w hSw; (try dsimp only at hSw); go_simp; try with_reducible rfl)
        simp only [Act.put, List.setIfInBounds_toArray, List.set]
        refine takeD (i := 6) (oi := _) (some 58) (v := .agg (hvA h s m)) rfl rfl (by kernel_rfl) (by kernel_rfl) (by kernel_rfl) (fun _ _ _ h => h) (yieldsIf_load_mid (by rfl) 26 (.tmp 3) rfl W.heap.size 0 rfl (hvA h s m).toList _ (fun w hw => hw.bh.range) Try.underlying26 rfl info7) (by assumption) ?_
        simp only [Act.put, List.setIfInBounds_toArray, List.set]
        refine takeD (i := 7) (oi := _) (some 59) (v := .agg (pvA (optP p q) t' n' u' j')) rfl rfl (by kernel_rfl) (by kernel_rfl) (by kernel_rfl) (fun _ _ _ h => h) (yieldsIf_load_mid (by rfl) 35 (.tmp 8) rfl (gA + 1) 0 rfl (pvA (optP p q) t' n' u' j').toList _ (fun w hw => hw.br.range) Try.underlying35 rfl info19) (by assumption) ?_
        simp only [Act.put, List.setIfInBounds_toArray, List.set]
        refine takeD (i := 9) (oi := _) (some 61) (v := .agg (hvA h s m)) rfl rfl (by kernel_rfl) (by kernel_rfl) (by kernel_rfl) (fun _ _ _ h => h) (yieldsIf_load_mid (by rfl) 26 (.tmp 3) rfl W.heap.size 0 rfl (hvA h s m).toList _ (fun w hw => hw.bh.range) Try.underlying26 rfl info7) (by assumption) ?_
        simp only [Act.put, List.setIfInBounds_toArray, List.set]
        refine takeD (i := 10) (oi := _) (some 62) (v := .agg (pvA p t n t2 n2)) rfl rfl (by kernel_rfl) (by kernel_rfl) (by kernel_rfl) (fun _ _ _ h => h) (yieldsIf_load_mid (by rfl) 35 (.tmp 4) rfl (W.heap.size + 1) 0 rfl (pvA p t n t2 n2).toList _ (fun w hw => hw.bp.range) Try.underlying35 rfl info19) (by assumption) ?_
        simp only [Act.put, List.setIfInBounds_toArray, List.set]
        refine wpAnyH_ready (rs := [8]) (by kernel_rfl) (by simp) ?_
        refine AllReadyH.cons (o := _) rfl (fun K hK => ?_) AllReadyH.nil
        (go_simp; go_at_call 11; (with_reducible refine (H3.out _ hHeld).mono ?_); rintro e wn ⟨rfl, hbn⟩)
        refine hK.out _ _ (by (try dsimp only); first | exact hHeld | exact hHeld.below hbn) (fun hHeld => ?_)
        clear hK K
        try simp only [Act.put, List.setIfInBounds_toArray, List.set]
        refine wpAnyH_ready (rs := [11]) (by kernel_rfl) (by simp) ?_
        refine AllReadyH.cons (o := _) rfl (fun K hK => ?_) AllReadyH.nil
        (go_simp; go_at_call 11; (with_reducible refine (H4.out _ hHeld).mono ?_); rintro e wn ⟨rfl, hbn⟩)
        refine hK.out _ _ (by (try dsimp only); first | exact hHeld | exact hHeld.below hbn) (fun hHeld => ?_)
        clear hK K
        try simp only [Act.put, List.setIfInBounds_toArray, List.set]
        refine takeD (i := 12) (oi := _) (some 64) (v := ?_) rfl rfl (by kernel_rfl) (by kernel_rfl) (by kernel_rfl) (fun _ _ _ h => h) (Or.inl ⟨by rfl, ?_⟩) (by assumption) ?_
        rotate_left
        · (intro w hSw; (try dsimp only at hSw); go_simp; try with_reducible rfl)
        simp only [Act.put, List.setIfInBounds_toArray, List.set]
        refine takeD (i := 13) (oi := _) (some 65) (v := ?_) rfl rfl (by kernel_rfl) (by kernel_rfl) (by kernel_rfl) (fun _ _ _ h => h) (Or.inl ⟨by rfl, ?_⟩) (by assumption) ?_
        rotate_left
        · (intro w hSw; (try dsimp only at hSw); go_simp; try with_reducible rfl)
        simp only [Act.put, List.setIfInBounds_toArray, List.set]
        refine takeD (i := 14) (oi := _) (some 66) (v := ?_) rfl rfl (by kernel_rfl) (by kernel_rfl) (by kernel_rfl) (fun _ _ _ h => h) (Or.inl ⟨by rfl, ?_⟩) (by assumption) ?_
        rotate_left
        · (intro w hSw; (try dsimp only at hSw); go_simp; try with_reducible rfl)
        simp only [Act.put, List.setIfInBounds_toArray, List.set]
        refine wpAnyH_ready (rs := [15]) (by kernel_rfl) (by simp) ?_
        refine AllReadyH.cons (o := _) rfl (fun K hK => ?_) AllReadyH.nil
        (go_simp; go_at_call 10; (with_reducible refine (awake23_c _).mono ?_); rintro e wn ⟨rfl, hbn⟩)
        refine hK.out _ _ (by (try dsimp only); first | exact hHeld | exact hHeld.below hbn) (fun hHeld => ?_)
        clear hK K
        try simp only [Act.put, List.setIfInBounds_toArray, List.set]
        refine takeD (i := 16) (oi := _) (some 68) (v := ?_) rfl rfl (by kernel_rfl) (by kernel_rfl) (by kernel_rfl) (fun _ _ _ h => h) (Or.inl ⟨by rfl, ?_⟩) (by assumption) ?_
        rotate_left
        · (intro w hSw; (try dsimp only at hSw); go_simp; try with_reducible rfl)
        simp only [Act.put, List.setIfInBounds_toArray, List.set]
        refine takeD (i := 17) (oi := _) (some 6) (v := ?_) rfl rfl (by kernel_rfl) (by kernel_rfl) (by kernel_rfl) (fun _ _ _ h => h) (Or.inl ⟨by rfl, ?_⟩) (by assumption) ?_
        rotate_left
        · (intro w hSw; (try dsimp only at hSw); go_simp; try with_reducible rfl)
        simp only [Act.put, List.setIfInBounds_toArray, List.set]
        refine wpAnyH_done (by kernel_rfl) ?_ _

        have HB := Lib.hid hHeld.bl
        clear hHeld HS H1 H2 H3 H4
        go_wp2_with fail
        go_ret
        exact ⟨rfl, HB.out⟩
      case pos =>
        rcases HA.out.oC with z | ⟨gc, pad, hs', hB, hbk⟩
        · have := congrArg List.length z
          rw [fst_len _ _ _ hk] at this
          rw [List.length_nil] at this; omega
        subst hs'
        have kb := ownG_get cmV_len hbk k (by rw [fst_len _ _ _ hk]; exact hlt) 1 (by decide) (.bool h.cs[k].sg) (by rw [fst_at _ _ _ hlt]; rfl)
        have kc := hbk.free (k * 4 + 1)
        have hne : gA ≠ gc := HA.out.ba.ne hbk (by decide)
        have KA := Lib.hid (show wr.drew.cell? ⟨gA, 6, none⟩ = some (.slice (some ⟨gc, 0, none⟩) h.cs.length m') from HA.out.ba.get 6 rfl)
        have HN := Lib.hid (show IgS W h p q s m t n t2 n2 x1 y1 x2 y2 gA (some ⟨gc, 0, none⟩) m' t' n' u' j' (fst flp (k + 1) h.cs) p (wr.drew.setCell ⟨gc, k * 4 + 1, none⟩ (.bool (!h.cs[k].sg))) from by
          have a := HA.out
          have hbd : Blk wr.drew gc 56 _ := hbk.drew
          have hsz : W.heap.size ≤ gc := hB
          have hb : Below W.heap.size W (wr.drew.setCell ⟨gc, k * 4 + 1, none⟩ (.bool (!h.cs[k].sg))) := a.bl.drew.setCell (p := ⟨gc, k * 4 + 1, none⟩) hsz _
          refine ⟨hb, a.bh.drew.far (p := ⟨gc, _, none⟩) (a.bh.ne hbk (by decide)) _, a.bp.drew.far (p := ⟨gc, _, none⟩) (a.bp.ne hbk (by decide)) _, a.bq.drew.far (p := ⟨gc, _, none⟩) (a.bq.ne hbk (by decide)) _, a.ba.drew.far (p := ⟨gc, _, none⟩) hne _, a.br.drew.far (p := ⟨gc, _, none⟩) (a.br.ne hbk (by decide)) _, HC0.out.below hb (Nat.le_refl _), HP0.out.below hb (Nat.le_refl _), HS0.out.below hb (Nat.le_refl _), ?_, OwnG.farBlk a.oP.drew hbd (by decide) _, OwnG.farBlk a.oS.drew hbd (by decide) _, a.ga⟩
          refine .inr ⟨gc, pad, rfl, hB, ?_⟩
          have q := ownG_set cmV_len hbd k (by rw [fst_len _ _ _ hk]; exact hlt) 1 (by decide) (flp h.cs[k]) (.bool (!h.cs[k].sg)) (by rw [fst_at _ _ _ hlt]; rfl)
          rw [fst_next _ _ _ hlt] at q
          exact q)
        have hki : (k : Int) < (h.cs.length : Int) := by omega
        have w2' : IntKind.i64.wrap ((k : Int) + 1) = (k : Int) + 1 := IntWalk.i64_in _ (by have := HLEN.out; omega)
        generalize h.cs[k].sg = V at *
        clear HA hbk hB
        go_upto_region 7 with fail
        refine wp_region_held_drew (S := (fun w => w.cell? ⟨gA, 6, none⟩ = some (.slice (some ⟨gc, 0, none⟩) h.cs.length m'))) (by kernel_rfl) (by (try dsimp only); exact KA.out) (fun hHeld => ?_)
        refine takeD (i := 0) (oi := _) (some 27) (v := ?_) rfl rfl (by kernel_rfl) (by kernel_rfl) (by kernel_rfl) (fun _ _ _ h => h) (Or.inl ⟨by rfl, ?_⟩) (by assumption) ?_
        rotate_left
        · (intro w hSw; (try dsimp only at hSw); go_simp; try with_reducible rfl)
        simp only [Act.put, List.setIfInBounds_toArray, List.set]
        refine takeD (i := 1) (oi := _) (some 28) (v := ?_) rfl rfl (by kernel_rfl) (by kernel_rfl) (by kernel_rfl) (fun _ _ _ h => h) (Or.inl ⟨by rfl, ?_⟩) (by assumption) ?_
        rotate_left
        · (intro w hSw; (try dsimp only at hSw); go_simp; try with_reducible rfl)
        simp only [Act.put, List.setIfInBounds_toArray, List.set]
        refine takeD (i := 2) (oi := _) (some 29) (v := ?_) rfl rfl (by kernel_rfl) (by kernel_rfl) (by kernel_rfl) (fun _ _ _ h => h) (Or.inl ⟨by rfl, ?_⟩) (by assumption) ?_
        rotate_left
        · (intro w hSw; (try dsimp only at hSw); go_simp; try with_reducible rfl)
        simp only [Act.put, List.setIfInBounds_toArray, List.set]
        refine takeD (i := 3) (oi := _) (some 30) (v := ?_) rfl rfl (by kernel_rfl) (by kernel_rfl) (by kernel_rfl) (fun _ _ _ h => h) (Or.inl ⟨by rfl, ?_⟩) (by assumption) ?_
        rotate_left
        · (intro w hSw; (try dsimp only at hSw); go_simp; try with_reducible rfl)
        simp only [Act.put, List.setIfInBounds_toArray, List.set]
        refine takeD (i := 4) (oi := _) (some 31) (v := ?_) rfl rfl (by kernel_rfl) (by kernel_rfl) (by kernel_rfl) (fun _ _ _ h => h) (Or.inl ⟨by rfl, ?_⟩) (by assumption) ?_
        rotate_left
        · (intro w hSw; (try dsimp only at hSw); go_simp; try with_reducible rfl)
        simp only [Act.put, List.setIfInBounds_toArray, List.set]
        refine takeD (i := 5) (oi := _) (some 32) (v := ?_) rfl rfl (by kernel_rfl) (by kernel_rfl) (by kernel_rfl) (fun _ _ _ h => h) (Or.inl ⟨by rfl, ?_⟩) (by assumption) ?_
        rotate_left
        · (intro w hSw; (try dsimp only at hSw); go_simp; try with_reducible rfl)
        simp only [Act.put, List.setIfInBounds_toArray, List.set]
        refine takeD (i := 6) (oi := _) (some 33) (v := ?_) rfl rfl (by kernel_rfl) (by kernel_rfl) (by kernel_rfl) (fun _ _ _ h => h) (Or.inl ⟨by rfl, ?_⟩) (by assumption) ?_
        rotate_left
        · (intro w hSw; (try dsimp only at hSw); go_simp; try with_reducible rfl)
        simp only [Act.put, List.setIfInBounds_toArray, List.set]
        refine takeD (i := 7) (oi := _) (some 34) (v := ?_) rfl rfl (by kernel_rfl) (by kernel_rfl) (by kernel_rfl) (fun _ _ _ h => h) (Or.inl ⟨by rfl, ?_⟩) (by assumption) ?_
        rotate_left
        · (intro w hSw; (try dsimp only at hSw); go_simp; try with_reducible rfl)
        simp only [Act.put, List.setIfInBounds_toArray, List.set]
        refine wpAnyH_ready (rs := [8]) (by kernel_rfl) (by simp) ?_
        refine AllReadyH.cons (o := _) rfl (fun K hK => ?_) AllReadyH.nil
        go_simp
        refine hK.out _ _ (by (try dsimp only); first | exact hHeld | exact cell_far _ hHeld hne) (fun hHeld => ?_)
        clear hK K
        try simp only [Act.put, List.setIfInBounds_toArray, List.set]
        refine takeD (i := 9) (oi := _) (some 36) (v := ?_) rfl rfl (by kernel_rfl) (by kernel_rfl) (by kernel_rfl) (fun _ _ _ h => h) (Or.inl ⟨by rfl, ?_⟩) (by assumption) ?_
        rotate_left
        · (intro w hSw; (try dsimp only at hSw); go_simp; try with_reducible rfl)
        simp only [Act.put, List.setIfInBounds_toArray, List.set]
        refine takeD (i := 10) (oi := _) (some 37) (v := ?_) rfl rfl (by kernel_rfl) (by kernel_rfl) (by kernel_rfl) (fun _ _ _ h => h) (Or.inl ⟨by rfl, ?_⟩) (by assumption) ?_
        rotate_left
        · (intro w hSw; (try dsimp only at hSw); go_simp; try with_reducible rfl)
        simp only [Act.put, List.setIfInBounds_toArray, List.set]
        refine takeD (i := 11) (oi := _) (some 38) (v := ?_) rfl rfl (by kernel_rfl) (by kernel_rfl) (by kernel_rfl) (fun _ _ _ h => h) (Or.inl ⟨by rfl, ?_⟩) (by assumption) ?_
        rotate_left
        · (intro w hSw; (try dsimp only at hSw); go_simp; try with_reducible rfl)
        simp only [Act.put, List.setIfInBounds_toArray, List.set]
        refine wpAnyH_ready (rs := [12]) (by kernel_rfl) (by simp) ?_
        refine AllReadyH.cons (o := _) rfl (fun K hK => ?_) AllReadyH.nil
        go_simp
        refine hK.out _ _ (by (try dsimp only); first | exact hHeld | exact cell_far _ hHeld hne) (fun hHeld => ?_)
        clear hK K
        try simp only [Act.put, List.setIfInBounds_toArray, List.set]
        refine wpAnyH_done (by kernel_rfl) ?_ _

        clear hHeld kb kc KA hne
        go_wp2_with fail
        go_roundw
        case rel => exact ⟨k + 1, by omega, by go_num, HN⟩
        case measure => simp [intOf]; omega
  · have hf : fewB h p = false := by simpa using hf
    rw [hf] at KF
    clear hf c1 c2 c3
    go_enter Try.func8, Try.ntmps8
    go_upto_region 1 with fail
    rw [← HW2]
    clear HW2
    go_wp2_with (first | (refine wpList_load_mid rfl 26 (.tmp 3) rfl W.heap.size 0 rfl (hvA h s m).toList _ A0.out.bh.range Try.underlying26 rfl info7 ?_) | (refine wpList_load_mid rfl 35 (.tmp 4) rfl (W.heap.size + 1) 0 rfl (pvA p t n t2 n2).toList _ A0.out.bp.range Try.underlying35 rfl info19 ?_) | (go_at_call 9; (with_reducible refine (KF.out _).mono ?_); rintro e w1 ⟨rfl, hb1⟩; have A1 := Lib.hid (A0.out.below hb1); clear hb1) | (go_at_call 10; (with_reducible refine (awake23_c _).mono ?_); rintro e w2 ⟨rfl, hb2⟩; have B2 := Lib.hid (A1.out.below hb2).bl; clear hb2) | fail)
    go_ret
    exact ⟨rfl, B2.out⟩

set_option maxRecDepth 100000 in
theorem lifted (os : Os) (started : os.Started) (H : Type) (enc : TypeId × Value → H) :
    ReturnsInHanded {} Try.checked os 8 .any (Rows.paramsIgnoresSpec.pre6 enc Try.prog Try.f8 Rows.paramsIgnoresRow.domain false) (Rows.paramsIgnoresSpec.post enc Try.prog Try.f8 false true false false) := by
  refine returnsInHanded_of_change (C := Try.checked) own started (by kernel_rfl) Try.func8
    (ChangeSpec.witness6 (enc := enc) (C := Try.checked) false ⟨#[], #[.agg #[.int .i64 0, .int .i64 0, .int .i64 0, .int .i64 0, .int .i64 0, .int .i64 0, .slice none 0 0], .agg #[.int .i64 0, .int .i64 0, .int .i64 0, .int .i64 0, .int .i64 0, .slice none 0 0, .int .i64 0, .int .i64 0, .bool false, .bool false, .bool false, .bool false, .bool false, .bool false, .bool false, .bool false, .slice none 0 0, .int .i64 0, .int .i64 0], .agg #[.int .i64 0, .int .i64 0, .int .i64 0, .int .i64 0, .int .i64 0, .slice none 0 0, .int .i64 0, .int .i64 0, .bool false, .bool false, .bool false, .bool false, .bool false, .bool false, .bool false, .bool false, .slice none 0 0, .int .i64 0, .int .i64 0]], []⟩ 8 (by kernel_rfl) (by kernel_rfl) (by kernel_rfl) (by kernel_rfl)) ?_
  intro W base args ds gs before hval0 hW _ _
  have hval : ∀ (j : Nat) t v, Try.f8.params[j]? = some t → args[j]? = some v → Value.okWide Try.prog W .any base t v := hval0
  have hW' := hW
  obtain ⟨p, q, hA0, hV, rfl, _, _⟩ := hW
  have hA : DataW.TrodAll enc Try.prog W 0 (fun _ => true) true Try.f8.params.toList args.toList ds p := hA0
  rw [Try.params8] at hA hval
  obtain ⟨v0, vs0, d0, ds0, p0, q0, hargs, rfl, rfl, h0, r0⟩ := trodAll_cons hA
  obtain ⟨v1, vs1, d1, ds1, p1, q1, rfl, rfl, rfl, h1, r1⟩ := trodAll_cons r0
  obtain ⟨v2, vs2, d2, ds2, p2, q2, rfl, rfl, rfl, h2, r2⟩ := trodAll_cons r1
  obtain ⟨rfl, rfl, rfl⟩ := trodAll_nil r2
  obtain rfl : args = #[v0, v1, v2] := by cases args; simp_all
  obtain ⟨rfl, rfl⟩ := trodVars_none hV
  clear hA0 hval0
  simp only [List.append_nil] at hW'
  have l0 : ∀ x ∈ p0, x.block < W.heap.size := fun x hx => hW'.lt x (by simp [hx])
  have l1 : ∀ x ∈ p1, x.block < W.heap.size := fun x hx => hW'.lt x (by simp [hx])
  have l2 : ∀ x ∈ p2, x.block < W.heap.size := fun x hx => hW'.lt x (by simp [hx])
  obtain ⟨hd0, s0, m0, rfl, hC0, hc0⟩ := open_header2 (hval 0 26 v0 rfl rfl) h0
  obtain ⟨p1', s1, m1, t1, n1, rfl, hP1, hS1, hp1, hs1⟩ := open_params (hval 1 35 v1 rfl rfl) h1
  obtain ⟨p2', s2, m2, t2, n2, rfl, hP2, hS2, hp2, hs2⟩ := open_params (hval 2 35 v2 rfl rfl) h2
  refine (walk hd0 p1' p2' s0 m0 s1 m1 t1 n1 s2 m2 t2 n2 W hC0 hP1 hS1 hc0 hp1 hs1).mono fun e W' ⟨he, hb⟩ => ?_
  subst he
  exact ⟨_, rfl, post_low (pa := p0 ++ (p1 ++ (p2 ++ ([])))) (pv := []) hW' (fun _ _ _ => (trodAll_cons_mk (shut_bool Try.underlying4 _) trodAll_mk0)) (fun sp hsp => (trodAll_cons_mk (trod_low laidOut (by kernel_rfl) (of_decide_eq_true (by kernel_rfl)) h0 hb l0 (fun x hx => hsp x (by simp [hx]))) (trodAll_cons_mk (trod_low laidOut (by kernel_rfl) (of_decide_eq_true (by kernel_rfl)) h1 hb l1 (fun x hx => hsp x (by simp [hx]))) (trodAll_cons_mk (trod_low laidOut (by kernel_rfl) (of_decide_eq_true (by kernel_rfl)) h2 hb l2 (fun x hx => hsp x (by simp [hx]))) trodAll_mk0)))) (fun _ _ => rfl) (by simp) hb (ok_one (by kernel_rfl) rfl (okWide_bool_mk Try.underlying4 _))⟩

theorem over : Rows.paramsIgnoresRow.holds Try.pinned (OpenSpec.ofChange Rows.paramsIgnoresSpec) :=
  OpenClaim.holds_of_wide 8 Try.f8 rfl rfl rfl rfl rfl rfl rfl ⟨rfl, rfl, rfl, rfl, rfl⟩ rfl rfl rfl rfl rfl (by kernel_rfl) Try.func8 (by kernel_rfl)
    (of_decide_eq_true (by kernel_rfl)) (by unfold Func.isWrapper; first | (rw [if_pos (by decide +kernel)]; kernel_rfl) | (rw [if_neg (by decide +kernel)]; exact ⟨rfl, rfl⟩))
    (fun os started H enc _ => lifted os started H enc)

theorem proved : Rows.ParamsIgnoresSaid :=
  over
#print axioms proved
end Go.Proofs.Ytkcjbehfhcmiaaa.paramsIgnores
