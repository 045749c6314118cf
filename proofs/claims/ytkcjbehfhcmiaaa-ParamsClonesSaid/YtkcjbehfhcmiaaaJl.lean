/-
  Layer 23: contract of Clone.
-/
import Derived.Test.YtkcjbehfhcmiaaaJe
import Derived.Test.YtkcjbehfhcmiaaaJo
import Derived.Deep.MidRow
set_option maxRecDepth 100000
namespace Go.Proofs.Ytkcjbehfhcmiaaa
open Go.RowKit

def zeroH : Array Value := #[.int .i64 0, .int .i64 0, .int .i64 0, .int .i64 0, .int .i64 0, .int .i64 0, .slice none 0 0]
def capOk (s : Option Addr) (n m : Nat) : Prop := n ≤ m ∧ (s = none → n = 0 ∧ m = 0)
/-- What Clone has in memory on its way. -/
structure ClS (W : World) (h : Hp.Hd) (p : Hp.Ps) (vh vp : Array Value) (s t t2 : Option Addr) (w : World) : Prop where
  bl : Below W.heap.size W w
  bh : Blk w W.heap.size 26 vh
  bp : Blk w (W.heap.size + 1) 35 vp
  rh : Blk w (W.heap.size + 1 + 1) 26 zeroH
  rp : Blk w (W.heap.size + 1 + 1 + 1) 35 zeroP
  hC : HoldsC w s h.cs
  hP : HoldsP w t p.prec
  hS : HoldsI w t2 p.steps
  sz : W.heap.size + 4 ≤ w.heap.size
theorem ClS.below {W w w' : World} {h : Hp.Hd} {p : Hp.Ps} {vh vp : Array Value} {s t t2 : Option Addr} (a : ClS W h p vh vp s t t2 w) (hb : Below w.heap.size w w') : ClS W h p vh vp s t t2 w' :=
  ⟨a.bl.trans (hb.mono a.bl.size), a.bh.below hb, a.bp.below hb, a.rh.below hb, a.rp.below hb, a.hC.below hb (Nat.le_refl _), a.hP.below hb (Nat.le_refl _), a.hS.below hb (Nat.le_refl _), Nat.le_trans a.sz hb.size⟩
/-- What Clone gives. -/
def GivesClone (h : Hp.Hd) (p : Hp.Ps) (W : World) (e : Ending) (w' : World) : Prop :=
  ∃ s m t n t2 n2, e = .returned (.tuple #[.agg (hvA h s m), .agg (pvA p t n t2 n2)]) ∧ (capOk s h.cs.length m ∧ capOk t p.prec.length n ∧ capOk t2 p.steps.length n2) ∧
    OwnG cmV 56 w' W.heap.size s h.cs ∧ OwnG ptV 41 w' W.heap.size t p.prec ∧ OwnG inV 3 w' W.heap.size t2 p.steps ∧ Below W.heap.size W w'
theorem one7 (s : Option Addr) (m : Nat) (h : Hp.Hd) : (hvA h s m).all (·.oneCell') = true := by simp [hvA, Value.oneCell']
theorem Blk.rowFar {w : World} {g k : Nat} {t : TypeId} {cs : Array Value} (h : Blk w g t cs) (hn : g ≠ k) (cs' : Array Value) : Blk (w.setRow k cs') g t cs := (setRow_other w k g cs' hn).trans h
theorem OwnG.rowFar {α : Type} {f : α → List Value} {T : TypeId} {B : Nat} {w : World} {a : Option Addr} {l : List α} (h : OwnG f T w B a l) {k : Nat} (hk : k < B) (cs' : Array Value) : OwnG f T (w.setRow k cs') B a l := by
  rcases h with h | ⟨g, pad, rfl, hB, hr⟩
  · exact .inl h
  · exact .inr ⟨g, pad, rfl, hB, hr.rowFar (by omega) _⟩
theorem results_cell2 {fn : Func} {p u : Tmp} {ty ty2 : TypeId} (h : fn.results = #[.cell p ty, .cell u ty2]) (tmps : Array Value) (P : Program) (w : World) :
    (results fn tmps).run P w =
      ((asAddr (tmps.getD p undef)).run P w).andThen fun a w₁ => ((loadVar ty a).run P w₁).andThen fun v w₂ => ((asAddr (tmps.getD u undef)).run P w₂).andThen fun a2 w₃ => ((loadVar ty2 a2).run P w₃).andThen fun v2 w₄ => .ok (.tuple #[v, v2]) w₄ := by
  simp only [results, h]
  simp [Sem.run_bind, Result.andThen]
  repeat' split
  all_goals simp_all
theorem results_hp {fn : Func} {p u : Tmp} (h : fn.results = #[.cell p 26, .cell u 35]) (tmps : Array Value) {W : World} {g g2 : Nat} {hd : Hp.Hd} {q : Hp.Ps} {s t t2 : Option Addr} {m n n2 : Nat} (hp : tmps.getD p undef = .pointer (some ⟨g, 0, none⟩)) (hu : tmps.getD u undef = .pointer (some ⟨g2, 0, none⟩))
    (B : Blk W g 26 (hvA hd s m)) (B2 : Blk W g2 35 (pvA q t n t2 n2)) :
    (results fn tmps).run Try.prog W = .ok (.tuple #[.agg (hvA hd s m), .agg (pvA q t n t2 n2)]) W := by
  rw [results_cell2 h, hp, hu]
  have e : (asAddr (.pointer (some ⟨g, 0, none⟩))).run Try.prog W = .ok (⟨g, 0, none⟩ : Addr) W := rfl
  have e2 : (asAddr (.pointer (some ⟨g2, 0, none⟩))).run Try.prog W = .ok (⟨g2, 0, none⟩ : Addr) W := rfl
  rw [e]
  simp only [Result.andThen]
  rw [run_loadVar_mid W g 0 26 (hvA hd s m).toList _ B.range Try.underlying26 rfl info7]
  dsimp only
  rw [e2]
  dsimp only
  rw [run_loadVar_mid W g2 0 35 (pvA q t n t2 n2).toList _ B2.range Try.underlying35 rfl info19]
set_option maxHeartbeats 8000000 in
theorem clone23_c (h : Hp.Hd) (p : Hp.Ps) (s s2 s3 : Option Addr) (m m2 m3 : Nat) (W : World) (l1 : h.cs.length ≤ 1048576) (l2 : p.prec.length ≤ 1048576) (l3 : p.steps.length ≤ 1048576)
    (hC : HoldsC W s h.cs) (hP : HoldsP W s2 p.prec) (hS : HoldsI W s3 p.steps) (c1 : capOk s h.cs.length m) (c2 : capOk s2 p.prec.length m2) (c3 : capOk s3 p.steps.length m3) :
    Calls Try.prog 21 #[.agg (hvA h s m), .agg (pvA p s2 m2 s3 m3)] W (GivesClone h p W) := by
  obtain ⟨WB, hWB⟩ : ∃ ww, ww = ((((W.alloc (.cells (hvA h s m) 26)).alloc (.cells (pvA p s2 m2 s3 m3) 35)).alloc (.cells zeroH 26)).alloc (.cells zeroP 35)) := ⟨_, rfl⟩
  have hb0 : Below W.heap.size W WB := by rw [hWB]; exact below_alloc (below_alloc (below_alloc (below_alloc (Below.refl _ W) (Nat.le_refl _) _) (by simp) _) (by simp <;> omega) _) (by simp <;> omega) _
  have n1 := Blk.new W 26 (hvA h s m)
  have n2 := Blk.new (W.alloc (.cells (hvA h s m) 26)) 35 (pvA p s2 m2 s3 m3)
  have n3 := Blk.new ((W.alloc (.cells (hvA h s m) 26)).alloc (.cells (pvA p s2 m2 s3 m3) 35)) 26 zeroH
  have n4 := Blk.new (((W.alloc (.cells (hvA h s m) 26)).alloc (.cells (pvA p s2 m2 s3 m3) 35)).alloc (.cells zeroH 26)) 35 zeroP
  have q1 : Blk WB W.heap.size 26 (hvA h s m) := by rw [hWB]; exact ((n1.alloc _).alloc _).alloc _
  have q2 : Blk WB (W.heap.size + 1) 35 (pvA p s2 m2 s3 m3) := by rw [hWB]; exact ((show Blk _ (W.heap.size + 1) _ _ by simpa using n2).alloc _).alloc _
  have q3 : Blk WB (W.heap.size + 1 + 1) 26 zeroH := by rw [hWB]; exact (show Blk _ (W.heap.size + 1 + 1) _ _ by simpa using n3).alloc _
  have q4 : Blk WB (W.heap.size + 1 + 1 + 1) 35 zeroP := by rw [hWB]; exact (show Blk _ (W.heap.size + 1 + 1 + 1) _ _ by simpa using n4)
  have hsz : WB.heap.size = W.heap.size + 4 := by rw [hWB]; simp
  have A0 := Lib.hid (show ClS W h p (hvA h s m) (pvA p s2 m2 s3 m3) s s2 s3 WB from ⟨hb0, q1, q2, q3, q4, hC.below hb0 (Nat.le_refl _), hP.below hb0 (Nat.le_refl _), hS.below hb0 (Nat.le_refl _), by omega⟩)
  have k1 := cloneC_c s m h.cs WB l1 A0.out.hC c1.2
  have HSZ := Lib.hid hsz
  have hP0 := Lib.hid hP
  have hS0 := Lib.hid hS
  have HW2 := hWB
  clear n1 n2 n3 n4 q1 q2 q3 q4 hsz hb0 hWB hC hP hS
  have y0 := A0.out.bh.get 6 (v := .slice s h.cs.length m) rfl
  unfold hvA pvA zeroH zeroP at HW2
  show Calls Try.prog 21 #[.agg #[.int .i64 h.a, .int .i64 h.b, .int .i64 h.c, .int .i64 h.d, .int .i64 h.tw, .int .i64 h.th, .slice s h.cs.length m], .agg #[.int .i64 p.kern, .int .i64 p.lev, .int .i64 p.col, .int .i64 p.bx, .int .i64 p.yb, .slice s2 p.prec.length m2, .int .i64 p.ord, .int .i64 p.lay, .bool p.m0, .bool p.m1, .bool p.m2, .bool p.m3, .bool p.m4, .bool p.dv, .bool p.sy, .bool p.fe, .slice s3 p.steps.length m3, .int .i64 p.dead, .int .i64 p.sh]] W _
  go_enter Try.func21, Try.ntmps21
  go_upto_region 1 with fail
  rw [← HW2]
  clear HW2
  go_upto_region 2 with (first | (go_at_call 51; (with_reducible refine k1.mono ?_); rintro e w1 ⟨s', m', rfl, hc1, hO1, hb1⟩; have A1 := Lib.hid (A0.out.below hb1); have C1 := Lib.hid hc1; have O1 := Lib.hid hO1; have y6 := A1.out.bh.get 6 (v := .slice s h.cs.length m) rfl; have yf := A1.out.bh.free 6; have BB1 := Lib.hid hb1; clear hb1 hc1 hO1 y0) | fail)
  obtain ⟨X1, hX1⟩ : ∃ X, X = w1.setCell ⟨W.heap.size, 6, none⟩ (.slice s' h.cs.length m') := ⟨_, rfl⟩
  have A2 := Lib.hid (show ClS W h p (hvA h s' m') (pvA p s2 m2 s3 m3) s' s2 s3 X1 from by
    have a := A1.out
    have b : Below W.heap.size W X1 := by rw [hX1]; exact a.bl.setCell (p := ⟨W.heap.size, 6, none⟩) (Nat.le_refl _) _
    have o : OwnG cmV 56 X1 WB.heap.size s' h.cs := by rw [hX1]; exact O1.out.far (p := ⟨W.heap.size, 6, none⟩) (by rw [HSZ.out]; show W.heap.size < W.heap.size + 4; omega) _
    refine ⟨b, ?_, ?_, ?_, ?_, gC.2 o.holds, ?_, ?_, ?_⟩
    · rw [hX1]; exact a.bh.set 6 _
    · rw [hX1]; exact a.bp.far (p := ⟨W.heap.size, 6, none⟩) (by simp <;> omega) _
    · rw [hX1]; exact a.rh.far (p := ⟨W.heap.size, 6, none⟩) (by simp <;> omega) _
    · rw [hX1]; exact a.rp.far (p := ⟨W.heap.size, 6, none⟩) (by simp <;> omega) _
    · exact hP0.out.below b (Nat.le_refl _)
    · exact hS0.out.below b (Nat.le_refl _)
    · rw [hX1]; simpa [World.setCell] using a.sz)
  have O2 := Lib.hid (show OwnG cmV 56 X1 WB.heap.size s' h.cs by rw [hX1]; exact O1.out.far (p := ⟨W.heap.size, 6, none⟩) (by rw [HSZ.out]; show W.heap.size < W.heap.size + 4; omega) _)
  rw [← hX1]
  clear hX1 A1 O1 BB1 y6 yf k1
  have k2 := cloneP_c s2 m2 p.prec X1 l2 A2.out.hP c2.2
  have y0 := A2.out.bp.get 5 (v := .slice s2 p.prec.length m2) rfl
  go_upto_region 3 with (first | (go_at_call 52; (with_reducible refine k2.mono ?_); rintro e w1 ⟨t', n', rfl, hc1, hO1, hb1⟩; have A3 := Lib.hid (A2.out.below hb1); have C2 := Lib.hid hc1; have O3 := Lib.hid (O2.out.below hb1); have P3 := Lib.hid hO1; have y6 := A3.out.bp.get 5 (v := .slice s2 p.prec.length m2) rfl; have yf := A3.out.bp.free 5; clear hb1 hc1 hO1 y0) | fail)
  obtain ⟨X2, hX2⟩ : ∃ X, X = w1.setCell ⟨W.heap.size + 1, 5, none⟩ (.slice t' p.prec.length n') := ⟨_, rfl⟩
  have hlt : W.heap.size + 1 < X1.heap.size := A2.out.bp.lt
  have A4 := Lib.hid (show ClS W h p (hvA h s' m') (pvA p t' n' s3 m3) s' t' s3 X2 from by
    have a := A3.out
    have b : Below W.heap.size W X2 := by rw [hX2]; exact a.bl.setCell (p := ⟨W.heap.size + 1, 5, none⟩) (by simp <;> omega) _
    have o : OwnG cmV 56 X2 WB.heap.size s' h.cs := by rw [hX2]; exact O3.out.far (p := ⟨W.heap.size + 1, 5, none⟩) (by rw [HSZ.out]; simp) _
    have o2 : OwnG ptV 41 X2 X1.heap.size t' p.prec := by rw [hX2]; exact P3.out.far (p := ⟨W.heap.size + 1, 5, none⟩) hlt _
    refine ⟨b, ?_, ?_, ?_, ?_, gC.2 o.holds, gP.2 o2.holds, ?_, ?_⟩
    · rw [hX2]; exact a.bh.far (p := ⟨W.heap.size + 1, 5, none⟩) (by simp <;> omega) _
    · rw [hX2]; exact a.bp.set 5 _
    · rw [hX2]; exact a.rh.far (p := ⟨W.heap.size + 1, 5, none⟩) (by simp <;> omega) _
    · rw [hX2]; exact a.rp.far (p := ⟨W.heap.size + 1, 5, none⟩) (by simp <;> omega) _
    · exact hS0.out.below b (Nat.le_refl _)
    · rw [hX2]; simpa [World.setCell] using a.sz)
  have O4 := Lib.hid (show OwnG cmV 56 X2 WB.heap.size s' h.cs by rw [hX2]; exact O3.out.far (p := ⟨W.heap.size + 1, 5, none⟩) (by rw [HSZ.out]; simp) _)
  have P4 := Lib.hid (show OwnG ptV 41 X2 X1.heap.size t' p.prec by rw [hX2]; exact P3.out.far (p := ⟨W.heap.size + 1, 5, none⟩) hlt _)
  have HX1 := Lib.hid A2.out.sz
  rw [← hX2]
  clear hX2 A3 O3 P3 O2 y6 yf k2 hlt
  have k3 := cloneI_c s3 m3 p.steps X2 l3 A4.out.hS c3.2
  have y0 := A4.out.bp.get 16 (v := .slice s3 p.steps.length m3) rfl
  go_upto_region 4 with (first | (go_at_call 53; (with_reducible refine k3.mono ?_); rintro e w1 ⟨u', j', rfl, hc1, hO1, hb1⟩; have A5 := Lib.hid (A4.out.below hb1); have C3 := Lib.hid hc1; have O5 := Lib.hid (O4.out.below hb1); have P5 := Lib.hid (P4.out.below hb1); have S5 := Lib.hid hO1; have y6 := A5.out.bp.get 16 (v := .slice s3 p.steps.length m3) rfl; have yf := A5.out.bp.free 16; clear hb1 hc1 hO1 y0) | fail)
  obtain ⟨X3, hX3⟩ : ∃ X, X = w1.setCell ⟨W.heap.size + 1, 16, none⟩ (.slice u' p.steps.length j') := ⟨_, rfl⟩
  have hlt : W.heap.size + 1 < X2.heap.size := A4.out.bp.lt
  have a := A5.out
  have F1 := Lib.hid (show Below W.heap.size W X3 by rw [hX3]; exact a.bl.setCell (p := ⟨W.heap.size + 1, 16, none⟩) (by simp <;> omega) _)
  have F2 := Lib.hid (show Blk X3 W.heap.size 26 (hvA h s' m') by rw [hX3]; exact a.bh.far (p := ⟨W.heap.size + 1, 16, none⟩) (by simp <;> omega) _)
  have F3 := Lib.hid (show Blk X3 (W.heap.size + 1) 35 (pvA p t' n' u' j') by rw [hX3]; exact a.bp.set 16 _)
  have F4 := Lib.hid (show Blk X3 (W.heap.size + 1 + 1) 26 zeroH by rw [hX3]; exact a.rh.far (p := ⟨W.heap.size + 1, 16, none⟩) (by simp <;> omega) _)
  have F5 := Lib.hid (show Blk X3 (W.heap.size + 1 + 1 + 1) 35 zeroP by rw [hX3]; exact a.rp.far (p := ⟨W.heap.size + 1, 16, none⟩) (by simp <;> omega) _)
  have O6 := Lib.hid (show OwnG cmV 56 X3 (W.heap.size + 4) s' h.cs by rw [hX3, ← HSZ.out]; exact O5.out.far (p := ⟨W.heap.size + 1, 16, none⟩) (by rw [HSZ.out]; simp) _)
  have P6 := Lib.hid (show OwnG ptV 41 X3 (W.heap.size + 4) t' p.prec by rw [hX3]; exact (P5.out.less HX1.out).far (p := ⟨W.heap.size + 1, 16, none⟩) (by simp <;> omega) _)
  have S6 := Lib.hid (show OwnG inV 3 X3 (W.heap.size + 4) u' p.steps by rw [hX3]; exact (S5.out.less A4.out.sz).far (p := ⟨W.heap.size + 1, 16, none⟩) (by simp <;> omega) _)
  rw [← hX3]
  clear hX3 a A5 A4 A2 A0 O5 O4 P5 P4 S5 y6 yf k3 hlt HX1
  refine wp_region_held_drew (S := (fun w => Blk w W.heap.size 26 (hvA h s' m') ∧ Blk w (W.heap.size + 1) 35 (pvA p t' n' u' j'))) (by kernel_rfl) (by (try dsimp only); exact ⟨F2.out.drew, F3.out.drew⟩) (fun hHeld => ?_)
  refine takeD (i := 0) (oi := _) (some 18) (v := .agg (hvA h s' m')) rfl rfl (by kernel_rfl) (by kernel_rfl) (by kernel_rfl) (fun _ _ _ h => h) (yieldsIf_load_mid (by rfl) 26 (.tmp 2) rfl W.heap.size 0 rfl (hvA h s' m').toList _ (fun w hw => hw.1.range) Try.underlying26 rfl info7) (by assumption) ?_
  simp only [Act.put, List.setIfInBounds_toArray, List.set]
  refine takeD (i := 1) (oi := _) (some 19) (v := .agg (pvA p t' n' u' j')) rfl rfl (by kernel_rfl) (by kernel_rfl) (by kernel_rfl) (fun _ _ _ h => h) (yieldsIf_load_mid (by rfl) 35 (.tmp 3) rfl (W.heap.size + 1) 0 rfl (pvA p t' n' u' j').toList _ (fun w hw => hw.2.range) Try.underlying35 rfl info19) (by assumption) ?_
  simp only [Act.put, List.setIfInBounds_toArray, List.set]
  refine wpAnyH_ready (rs := [2]) (by kernel_rfl) (by simp) ?_
  refine AllReadyH.cons (o := _) rfl (fun K hK => ?_) AllReadyH.nil
  rw [if_pos (by rfl)]
  refine wp_store_row 26 (.tmp 4) (.tmp 18) rfl (W.heap.size + 1 + 1) (hvA h s' m') rfl rfl 26 zeroH F4.out.drew info7 rfl (one7 _ _ _) ?_
  refine hK.out _ _ (by (try dsimp only); exact ⟨F2.out.drew.rowFar (by omega) _, F3.out.drew.rowFar (by omega) _⟩) (fun hHeld2 => ?_)
  clear hK K hHeld
  try simp only [Act.put, List.setIfInBounds_toArray]
  refine wpAnyH_ready (rs := [3]) (by kernel_rfl) (by simp) ?_
  refine AllReadyH.cons (o := _) rfl (fun K hK => ?_) AllReadyH.nil
  rw [if_pos (by rfl)]
  refine wp_store_row 35 (.tmp 5) (.tmp 19) rfl (W.heap.size + 1 + 1 + 1) (pvA p t' n' u' j') rfl rfl 35 zeroP (F5.out.drew.rowFar (by omega) _) info19 rfl (one19 _ _ _ _ _) ?_
  refine hK.out _ _ (by (try dsimp only); exact ⟨hHeld2.1.rowFar (by omega) _, hHeld2.2.rowFar (by omega) _⟩) (fun hHeld => ?_)
  clear hK K hHeld hHeld2
  try simp only [Act.put]
  refine wpAnyH_done (by kernel_rfl) ?_ _
  obtain ⟨X4, hX4⟩ : ∃ X, X = (X3.drew.setRow (W.heap.size + 1 + 1) (hvA h s' m')).setRow (W.heap.size + 1 + 1 + 1) (pvA p t' n' u' j') := ⟨_, rfl⟩
  have G1 := Lib.hid (show Blk X4 (W.heap.size + 1 + 1) 26 (hvA h s' m') by rw [hX4]; exact Blk.rowFar (setRow_heap _ _ _ _ _ _ F4.out.drew) (by omega) _)
  have G2 := Lib.hid (show Blk X4 (W.heap.size + 1 + 1 + 1) 35 (pvA p t' n' u' j') by rw [hX4]; exact setRow_heap _ _ _ _ _ _ (F5.out.drew.rowFar (by omega) _))
  have G3 := Lib.hid (show Below W.heap.size W X4 by rw [hX4]; exact below_setRow (below_setRow F1.out.drew (by omega) _) (by omega) _)
  have G4 := Lib.hid (show OwnG cmV 56 X4 W.heap.size s' h.cs by rw [hX4]; exact (((O6.out.drew.rowFar (by omega) _).rowFar (by omega) _).less (by omega)))
  have G5 := Lib.hid (show OwnG ptV 41 X4 W.heap.size t' p.prec by rw [hX4]; exact (((P6.out.drew.rowFar (by omega) _).rowFar (by omega) _).less (by omega)))
  have G6 := Lib.hid (show OwnG inV 3 X4 W.heap.size u' p.steps by rw [hX4]; exact (((S6.out.drew.rowFar (by omega) _).rowFar (by omega) _).less (by omega)))
  rw [← hX4]
  clear hX4 F1 F2 F3 F4 F5 O6 P6 S6
  go_wp2_with fail
  refine bodyPost_ret (results_hp rfl _ rfl rfl G1.out G2.out) rfl ?_
  exact ⟨s', m', t', n', u', j', rfl, ⟨C1.out, C2.out, C3.out⟩, G4.out, G5.out, G6.out, G3.out⟩
end Go.Proofs.Ytkcjbehfhcmiaaa
