/-
  Layer 10: two trees, two writers, two readers: one call of both trees (alike).
-/
import Derived.Test.YtaddendclipkkaaCa
import Derived.Test.YtaddendclipkkaaTj
import Derived.Test.YtaddendclipkkaaTs
import Derived.Test.YtaddendclipkkaaTx
set_option maxRecDepth 100000
namespace Go.Proofs.Ytaddendclipkkaa
open Go.RowKit

def Dj (w : World) (a b : Nat) : Prop := ∀ k, Fp w a k → Fp w b k → False
theorem Dj.symm {w : World} {a b : Nat} (h : Dj w a b) : Dj w b a := fun k x y => h k y x
theorem fp_same {w w1 : World} {b : Nat} (h : w1.heap[b]? = w.heap[b]?) (k : Nat) : Fp w1 b k ↔ Fp w b k := by
  have e : w1.cell? ⟨b, 1, none⟩ = w.cell? ⟨b, 1, none⟩ := World.cell?_of_block (w := w) (a := ⟨b, 1, none⟩) h
  unfold Fp
  rw [e]
theorem Dj.kp {w w1 : World} {a b : Nat} (hd : Dj w a b) (hk : Kp a w w1) (hb : ∀ k, Fp w b k → k < w.heap.size) : Dj w1 a b ∧ ∀ k, Fp w b k → w1.heap[k]? = w.heap[k]? := by
  have hs : ∀ k, Fp w b k → w1.heap[k]? = w.heap[k]? := fun k hf => hk.block k (hb k hf) fun ha => hd k ha hf
  refine ⟨fun k ha hf => ?_, hs⟩
  rw [fp_same (hs b (.inl rfl))] at hf
  rcases hk.foot k ha with h | h
  · exact hd k h hf
  · have := hb k hf; omega
theorem Dj.below {w w1 : World} {a b : Nat} (hd : Dj w a b) (hb : Below w.heap.size w w1) (ha : a < w.heap.size) (hbl : b < w.heap.size) : Dj w1 a b := fun k x y =>
  hd k ((fp_same (hb.block a ha) k).1 x) ((fp_same (hb.block b hbl) k).1 y)
/-- A second object, newly made. -/
theorem Dj.new {w w1 : World} {a b : Nat} (hb : Below w.heap.size w w1) (ha : ∀ k, Fp w a k → k < w.heap.size) (hbf : ∀ k, Fp w1 b k → w.heap.size ≤ k) : Dj w1 a b := fun k x y => by
  have h1 := ha k ((fp_same (hb.block a (ha a (.inl rfl))) k).1 x)
  have := hbf k y
  omega
theorem Wr.fl {w : World} {B a : Nat} {l : List Int} (h : Wr w B a l) : ∀ k, Fp w a k → k < w.heap.size := fun k hk => (h.foot k hk).2
theorem Vr.fl {w : World} {B a : Nat} {l : List Int} (h : Vr w B a l) : ∀ k, Fp w a k → k < w.heap.size := fun k hk => (h.foot k hk).2
theorem Rd.fl {w : World} {B a : Nat} {l : List Int} {t : Nat} (h : Rd w B a l t) : ∀ k, Fp w a k → k < w.heap.size := fun k hk => (h.foot k hk).2
theorem dj_op {W W1 : World} {p q : Nat} (hd : Dj W p q) (hq : ∀ k, Fp W q k → k < W.heap.size ∧ W1.heap[k]? = W.heap[k]?) (hf : ∀ k, Fp W1 p k → Fp W p k ∨ W.heap.size ≤ k) : Dj W1 p q := fun k h1 h2 => by
  have h2' := (fp_same (hq q (.inl rfl)).2 k).1 h2
  rcases hf k h1 with z | z
  · exact hd k z h2'
  · have := (hq k h2').1; omega
theorem dj_two {W W1 : World} {p q : Nat} (hd : Dj W p q) (hp : W1.heap[p]? = W.heap[p]?) (hq : W1.heap[q]? = W.heap[q]?) : Dj W1 p q := fun k h1 h2 => hd k ((fp_same hp k).1 h1) ((fp_same hq k).1 h2)
/-- Two writers and two readers that share nothing. -/
structure Al (N a b x y : Nat) (bs s1 s2 : List Int) (t1 t2 : Nat) (W : World) : Prop where
  wa : Wr W N a s1
  wb : Wr W N b s2
  rx : Rd W N x bs t1
  ry : Rd W N y bs t2
  ab : Dj W a b
  ax : Dj W a x
  ay : Dj W a y
  bx : Dj W b x
  bY : Dj W b y
  xy : Dj W x y
/-- What a call on one object and one tree leaves of another object. -/
theorem ob_keep {W W1 : World} {p q A L D : Nat} {nd : Nat → Nat} (hd : Dj W p q) (hk : Kf (fun k => Fp W p k ∨ Tf A L nd D k) W W1) (hl : ∀ k, Fp W q k → k < W.heap.size) (ht : ∀ k, Fp W q k → ¬ Tf A L nd D k) : ∀ k, Fp W q k → k < W.heap.size ∧ W1.heap[k]? = W.heap[k]? :=
  fun k hq => ⟨hl k hq, hk.block k (hl k hq) fun hn => hn.elim (fun h1 => hd k h1 hq) (ht k hq)⟩
section
variable {N a b x y B A L w h D : Nat} {nd : Nat → Nat} {u u' : Int} {Q Q' : Nat → Nat → Nat → Nd} {bs s1 s2 s' : List Int} {t1 t2 t' : Nat} {W W1 : World}
theorem Al.step (H : Al N a b x y bs s1 s2 t1 t2 W) (hb : Below W.heap.size W W1) : Al N a b x y bs s1 s2 t1 t2 W1 :=
  ⟨H.wa.below hb, H.wb.below hb, H.rx.below hb, H.ry.below hb, H.ab.below hb H.wa.lt H.wb.lt, H.ax.below hb H.wa.lt H.rx.lt, H.ay.below hb H.wa.lt H.ry.lt, H.bx.below hb H.wb.lt H.rx.lt, H.bY.below hb H.wb.lt H.ry.lt, H.xy.below hb H.rx.lt H.ry.lt⟩
theorem Al.set (H : Al N a b x y bs s1 s2 t1 t2 W) (hT : Tr W B A L nd w h D u Q) (hk : Kf (Tf A L nd D) W W1) : Al N a b x y bs s1 s2 t1 t2 W1 := by
  have ka : ∀ k, Fp W a k → W1.heap[k]? = W.heap[k]? := fun k hf => hk.block k (H.wa.fl k hf) (not_tf H.wa hT k hf)
  have kb : ∀ k, Fp W b k → W1.heap[k]? = W.heap[k]? := fun k hf => hk.block k (H.wb.fl k hf) (not_tf H.wb hT k hf)
  have kx : ∀ k, Fp W x k → W1.heap[k]? = W.heap[k]? := fun k hf => hk.block k (H.rx.fl k hf) (not_tfR H.rx hT k hf)
  have ky : ∀ k, Fp W y k → W1.heap[k]? = W.heap[k]? := fun k hf => hk.block k (H.ry.fl k hf) (not_tfR H.ry hT k hf)
  have pa := ka a (.inl rfl)
  have pb := kb b (.inl rfl)
  have px := kx x (.inl rfl)
  have py := ky y (.inl rfl)
  exact ⟨H.wa.keep ka, H.wb.keep kb, H.rx.keep kx, H.ry.keep ky, dj_two H.ab pa pb, dj_two H.ax pa px, dj_two H.ay pa py, dj_two H.bx pb px, dj_two H.bY pb py, dj_two H.xy px py⟩
theorem Al.encA (H : Al N a b x y bs s1 s2 t1 t2 W) (hT : Tr W B A L nd w h D u Q) (hE : En W B N A L a nd w h D u Q s1 s' u' Q' W1) : Al N a b x y bs s' s2 t1 t2 W1 := by
  have kb := ob_keep H.ab hE.kf H.wb.fl (fun k hf => not_tf H.wb hT k hf)
  have kx := ob_keep H.ax hE.kf H.rx.fl (fun k hf => not_tfR H.rx hT k hf)
  have ky := ob_keep H.ay hE.kf H.ry.fl (fun k hf => not_tfR H.ry hT k hf)
  have pb := (kb b (.inl rfl)).2
  have px := (kx x (.inl rfl)).2
  have py := (ky y (.inl rfl)).2
  exact ⟨hE.wr, H.wb.keep fun k hf => (kb k hf).2, H.rx.keep fun k hf => (kx k hf).2, H.ry.keep fun k hf => (ky k hf).2, dj_op H.ab kb hE.foot, dj_op H.ax kx hE.foot, dj_op H.ay ky hE.foot, dj_two H.bx pb px, dj_two H.bY pb py, dj_two H.xy px py⟩
theorem Al.encB (H : Al N a b x y bs s1 s2 t1 t2 W) (hT : Tr W B A L nd w h D u Q) (hE : En W B N A L b nd w h D u Q s2 s' u' Q' W1) : Al N a b x y bs s1 s' t1 t2 W1 := by
  have ka := ob_keep H.ab.symm hE.kf H.wa.fl (fun k hf => not_tf H.wa hT k hf)
  have kx := ob_keep H.bx hE.kf H.rx.fl (fun k hf => not_tfR H.rx hT k hf)
  have ky := ob_keep H.bY hE.kf H.ry.fl (fun k hf => not_tfR H.ry hT k hf)
  have pa := (ka a (.inl rfl)).2
  have px := (kx x (.inl rfl)).2
  have py := (ky y (.inl rfl)).2
  exact ⟨H.wa.keep fun k hf => (ka k hf).2, hE.wr, H.rx.keep fun k hf => (kx k hf).2, H.ry.keep fun k hf => (ky k hf).2, (dj_op H.ab.symm ka hE.foot).symm, dj_two H.ax pa px, dj_two H.ay pa py, dj_op H.bx kx hE.foot, dj_op H.bY ky hE.foot, dj_two H.xy px py⟩
theorem Al.decX (H : Al N a b x y bs s1 s2 t1 t2 W) (hT : Tr W B A L nd w h D u Q) (hE : De W B N A L x nd w h D bs t' u' Q' W1) : Al N a b x y bs s1 s2 t' t2 W1 := by
  have ka := ob_keep H.ax.symm hE.kf H.wa.fl (fun k hf => not_tf H.wa hT k hf)
  have kb := ob_keep H.bx.symm hE.kf H.wb.fl (fun k hf => not_tf H.wb hT k hf)
  have ky := ob_keep H.xy hE.kf H.ry.fl (fun k hf => not_tfR H.ry hT k hf)
  have pa := (ka a (.inl rfl)).2
  have pb := (kb b (.inl rfl)).2
  have py := (ky y (.inl rfl)).2
  exact ⟨H.wa.keep fun k hf => (ka k hf).2, H.wb.keep fun k hf => (kb k hf).2, hE.rd, H.ry.keep fun k hf => (ky k hf).2, dj_two H.ab pa pb, (dj_op H.ax.symm ka hE.foot).symm, dj_two H.ay pa py, (dj_op H.bx.symm kb hE.foot).symm, dj_two H.bY pb py, dj_op H.xy ky hE.foot⟩
theorem Al.decY (H : Al N a b x y bs s1 s2 t1 t2 W) (hT : Tr W B A L nd w h D u Q) (hE : De W B N A L y nd w h D bs t' u' Q' W1) : Al N a b x y bs s1 s2 t1 t' W1 := by
  have ka := ob_keep H.ay.symm hE.kf H.wa.fl (fun k hf => not_tf H.wa hT k hf)
  have kb := ob_keep H.bY.symm hE.kf H.wb.fl (fun k hf => not_tf H.wb hT k hf)
  have kx := ob_keep H.xy.symm hE.kf H.rx.fl (fun k hf => not_tfR H.rx hT k hf)
  have pa := (ka a (.inl rfl)).2
  have pb := (kb b (.inl rfl)).2
  have px := (kx x (.inl rfl)).2
  exact ⟨H.wa.keep fun k hf => (ka k hf).2, H.wb.keep fun k hf => (kb k hf).2, H.rx.keep fun k hf => (kx k hf).2, hE.rd, dj_two H.ab pa pb, dj_two H.ax pa px, (dj_op H.ay.symm ka hE.foot).symm, dj_two H.bx pb px, (dj_op H.bY.symm kb hE.foot).symm, (dj_op H.xy.symm kx hE.foot).symm⟩
theorem al_mk {w1 w2 w3 w4 w5 : World} {N1 : Nat} (h1 : N ≤ N1) (hN : N1 ≤ w1.heap.size) (ha : Wr w1 N1 a []) (hb : Wr w2 w1.heap.size b []) (h12 : Below w1.heap.size w1 w2) (h23 : Below w2.heap.size w2 w3) (hx : Rd w4 w3.heap.size x bs 0) (h34 : Below w3.heap.size w3 w4) (hy : Rd w5 w4.heap.size y bs 0) (h45 : Below w4.heap.size w4 w5) : Al N a b x y bs [] [] 0 0 w5 := by
  have a2 := ha.below h12
  have d2 : Dj w2 a b := Dj.new h12 ha.fl (fun k hk => (hb.foot k hk).1)
  have a3 := a2.below h23
  have b3 := hb.below h23
  have d3 := d2.below h23 a2.lt hb.lt
  have a4 := a3.below h34
  have b4 := b3.below h34
  have d4 := d3.below h34 a3.lt b3.lt
  have e4 : Dj w4 a x := Dj.new h34 a3.fl (fun k hk => (hx.foot k hk).1)
  have f4 : Dj w4 b x := Dj.new h34 b3.fl (fun k hk => (hx.foot k hk).1)
  have s1 := h12.size
  have s2 := h23.size
  have s3 := h34.size
  exact ⟨(a4.below h45).low h1, (b4.below h45).low (by omega), (hx.below h45).low (by omega), hy.low (by omega), d4.below h45 a4.lt b4.lt, e4.below h45 a4.lt hx.lt, Dj.new h45 a4.fl (fun k hk => (hy.foot k hk).1), f4.below h45 b4.lt hx.lt, Dj.new h45 b4.fl (fun k hk => (hy.foot k hk).1), Dj.new h45 hx.fl (fun k hk => (hy.foot k hk).1)⟩
end
/-- A tree whose values were set and that was not used since, or one that was. -/
def Jv (w h : Nat) (u : Int) (Q : Nat → Nat → Nat → Nd) : Prop := u = 0 → ∃ f, Q = mkQ w h f xl0 xb0
def seQ (u : Int) (w h : Nat) (Q : Nat → Nat → Nat → Nd) (x y v : Int) : Nat → Nat → Nat → Nd := if u = 0 then mkQ w h (stF u w h (fun X Y => (Q 0 X Y).v) x y v) xl0 xb0 else Q
theorem jv_set {w h : Nat} {u : Int} {Q : Nat → Nat → Nat → Nd} (x y v : Int) : Jv w h u (seQ u w h Q x y v) := fun hu => by
  unfold seQ
  rw [if_pos hu]
  exact ⟨_, rfl⟩
theorem setJ {W : World} {B A L w h D : Nat} {nd : Nat → Nat} {u : Int} {Q : Nat → Nat → Nat → Nd} (H : Tr W B A L nd w h D u Q) (hJ : Jv w h u Q) (x y v : Int) :
    Calls Try.prog 33 #[.pointer (some ⟨A, 0, none⟩), .int .i64 x, .int .i64 y, .int .i64 v] W fun e w' => e = .returned (.int .i64 (stE u w h x y v)) ∧ Tr w' B A L nd w h D u (seQ u w h Q x y v) ∧ Kf (Tf A L nd D) W w' := by
  by_cases hu : u = 0
  · obtain ⟨f, rfl⟩ := hJ hu
    have h1 := set_c H x y v
    unfold seQ
    rw [if_pos hu]
    exact h1
  · have h1 := set_st H hu x y v
    unfold seQ
    rw [if_neg hu]
    refine h1.mono ?_
    rintro e w' ⟨rfl, rfl⟩
    exact ⟨by unfold stE; rw [if_pos hu], H, Kf.refl _ _⟩
theorem jv_enc {w h D : Nat} {u : Int} {Q : Nat → Nat → Nat → Nd} {s : List Int} (x y t : Int) (hJ : Jv w h u Q) : Jv w h (enU w h u x y t) (enQ Q w h D u s x y t) := fun hu => by
  unfold enU at hu
  unfold enQ
  by_cases hc : u = 2 ∨ ¬ okT w h x y t 65536
  · rw [if_pos hc] at hu ⊢
    exact hJ hu
  · rw [if_neg hc] at hu; omega
theorem jv_dec {w h D tt : Nat} {u : Int} {Q : Nat → Nat → Nat → Nd} {bs : List Int} (x y t : Int) (hJ : Jv w h u Q) : Jv w h (deU bs Q w h D u tt x y t) (deQ bs Q w h D u tt x y t) := fun hu => by
  unfold deU at hu
  unfold deQ
  by_cases hc : deE bs Q w h D u tt x y t = 0
  · rw [if_pos hc] at hu; omega
  · rw [if_neg hc] at hu ⊢
    exact hJ hu
/-- Two trees that share nothing. -/
structure Tt (W0 : World) (A1 L1 : Nat) (n1 : Nat → Nat) (A2 L2 : Nat) (n2 : Nat → Nat) (w h D : Nat) (u1 : Int) (Q1 : Nat → Nat → Nat → Nd) (u2 : Int) (Q2 : Nat → Nat → Nat → Nd) (W : World) : Prop where
  a : Tr W W0.heap.size A1 L1 n1 w h D u1 Q1
  b : Tr W W0.heap.size A2 L2 n2 w h D u2 Q2
  dj : ∀ k, Tf A1 L1 n1 D k → ¬ Tf A2 L2 n2 D k
  below : Below W0.heap.size W0 W
section
variable {W0 W W1 : World} {A1 L1 A2 L2 w h D a b x y g : Nat} {n1 n2 : Nat → Nat} {u1 u2 u' : Int} {Q1 Q2 Q' : Nat → Nat → Nat → Nd} {bs s1 s2 s' : List Int} {t1 t2 t' : Nat} {o : OpT} {P : Nat → Prop}
theorem Tt.step (H : Tt W0 A1 L1 n1 A2 L2 n2 w h D u1 Q1 u2 Q2 W) (hb : Below W.heap.size W W1) : Tt W0 A1 L1 n1 A2 L2 n2 w h D u1 Q1 u2 Q2 W1 := ⟨H.a.below hb, H.b.below hb, H.dj, below_call H.below hb⟩
theorem Tt.op1 (H : Tt W0 A1 L1 n1 A2 L2 n2 w h D u1 Q1 u2 Q2 W) (hT : Tr W1 W0.heap.size A1 L1 n1 w h D u' Q') (hk : Kf (fun k => P k ∨ Tf A1 L1 n1 D k) W W1) (hP : ∀ k, P k → W0.heap.size ≤ k ∧ ¬ Tf A2 L2 n2 D k) : Tt W0 A1 L1 n1 A2 L2 n2 w h D u' Q' u2 Q2 W1 :=
  ⟨hT, H.b.keep fun k hf => hk.block k (H.b.foot k hf).2 fun hn => hn.elim (fun h1 => (hP k h1).2 hf) (fun h1 => H.dj k h1 hf), H.dj, H.below.trans (hk.below (fun k hk => hk.elim (fun h1 => (hP k h1).1) (fun h1 => (H.a.foot k h1).1)) H.below.size)⟩
theorem Tt.op2 (H : Tt W0 A1 L1 n1 A2 L2 n2 w h D u1 Q1 u2 Q2 W) (hT : Tr W1 W0.heap.size A2 L2 n2 w h D u' Q') (hk : Kf (fun k => P k ∨ Tf A2 L2 n2 D k) W W1) (hP : ∀ k, P k → W0.heap.size ≤ k ∧ ¬ Tf A1 L1 n1 D k) : Tt W0 A1 L1 n1 A2 L2 n2 w h D u1 Q1 u' Q' W1 :=
  ⟨H.a.keep fun k hf => hk.block k (H.a.foot k hf).2 fun hn => hn.elim (fun h1 => (hP k h1).2 hf) (fun h1 => H.dj k hf h1), hT, H.dj, H.below.trans (hk.below (fun k hk => hk.elim (fun h1 => (hP k h1).1) (fun h1 => (H.b.foot k h1).1)) H.below.size)⟩
/-- All of alike. -/
structure As (W0 : World) (A1 L1 : Nat) (n1 : Nat → Nat) (A2 L2 : Nat) (n2 : Nat → Nat) (w h D : Nat) (u1 : Int) (Q1 : Nat → Nat → Nat → Nd) (u2 : Int) (Q2 : Nat → Nat → Nat → Nd) (a b x y : Nat) (bs s1 s2 : List Int) (t1 t2 : Nat) (g : Nat) (o : OpT) (W : World) : Prop where
  tt : Tt W0 A1 L1 n1 A2 L2 n2 w h D u1 Q1 u2 Q2 W
  al : Al W0.heap.size a b x y bs s1 s2 t1 t2 W
  bo : Bo W g o
theorem As.step (H : As W0 A1 L1 n1 A2 L2 n2 w h D u1 Q1 u2 Q2 a b x y bs s1 s2 t1 t2 g o W) (hb : Below W.heap.size W W1) : As W0 A1 L1 n1 A2 L2 n2 w h D u1 Q1 u2 Q2 a b x y bs s1 s2 t1 t2 g o W1 := ⟨H.tt.step hb, H.al.step hb, H.bo.below hb⟩
theorem kf_or {S : Nat → Prop} (hk : Kf S W W1) : Kf (fun k => False ∨ S k) W W1 := hk.mono fun _ h => .inr h
theorem As.set1 (H : As W0 A1 L1 n1 A2 L2 n2 w h D u1 Q1 u2 Q2 a b x y bs s1 s2 t1 t2 g o W) (hT : Tr W1 W0.heap.size A1 L1 n1 w h D u' Q') (hk : Kf (Tf A1 L1 n1 D) W W1) : As W0 A1 L1 n1 A2 L2 n2 w h D u' Q' u2 Q2 a b x y bs s1 s2 t1 t2 g o W1 :=
  ⟨H.tt.op1 hT (kf_or hk) (fun _ h => h.elim), H.al.set H.tt.a hk, H.bo.set H.tt.a hk⟩
theorem As.set2 (H : As W0 A1 L1 n1 A2 L2 n2 w h D u1 Q1 u2 Q2 a b x y bs s1 s2 t1 t2 g o W) (hT : Tr W1 W0.heap.size A2 L2 n2 w h D u' Q') (hk : Kf (Tf A2 L2 n2 D) W W1) : As W0 A1 L1 n1 A2 L2 n2 w h D u1 Q1 u' Q' a b x y bs s1 s2 t1 t2 g o W1 :=
  ⟨H.tt.op2 hT (kf_or hk) (fun _ h => h.elim), H.al.set H.tt.b hk, H.bo.set H.tt.b hk⟩
theorem As.enc1 (H : As W0 A1 L1 n1 A2 L2 n2 w h D u1 Q1 u2 Q2 a b x y bs s1 s2 t1 t2 g o W) (hE : En W W0.heap.size W0.heap.size A1 L1 a n1 w h D u1 Q1 s1 s' u' Q' W1) : As W0 A1 L1 n1 A2 L2 n2 w h D u' Q' u2 Q2 a b x y bs s' s2 t1 t2 g o W1 :=
  ⟨H.tt.op1 hE.tr hE.kf (fun k h => ⟨(H.al.wa.foot k h).1, not_tf H.al.wa H.tt.b k h⟩), H.al.encA H.tt.a hE, H.bo.enc H.tt.a H.al.wa hE⟩
theorem As.enc2 (H : As W0 A1 L1 n1 A2 L2 n2 w h D u1 Q1 u2 Q2 a b x y bs s1 s2 t1 t2 g o W) (hE : En W W0.heap.size W0.heap.size A2 L2 b n2 w h D u2 Q2 s2 s' u' Q' W1) : As W0 A1 L1 n1 A2 L2 n2 w h D u1 Q1 u' Q' a b x y bs s1 s' t1 t2 g o W1 :=
  ⟨H.tt.op2 hE.tr hE.kf (fun k h => ⟨(H.al.wb.foot k h).1, not_tf H.al.wb H.tt.a k h⟩), H.al.encB H.tt.b hE, H.bo.enc H.tt.b H.al.wb hE⟩
theorem bo_dec {B A L r : Nat} {nd : Nat → Nat} {u : Int} {Q : Nat → Nat → Nat → Nd} {B2 : Nat} (H : Bo W g o) (hT : Tr W B A L nd w h D u Q) (hR : Rd W B2 r bs t1) (hE : De W B B2 A L r nd w h D bs t' u' Q' W1) : Bo W1 g o :=
  (hE.kf.block g (Blk.lt H) (fun hn => hn.elim (not_fpR hR H (by decide)) (not_tfT hT H (by decide)))).trans H
theorem As.dec1 (H : As W0 A1 L1 n1 A2 L2 n2 w h D u1 Q1 u2 Q2 a b x y bs s1 s2 t1 t2 g o W) (hE : De W W0.heap.size W0.heap.size A1 L1 x n1 w h D bs t' u' Q' W1) : As W0 A1 L1 n1 A2 L2 n2 w h D u' Q' u2 Q2 a b x y bs s1 s2 t' t2 g o W1 :=
  ⟨H.tt.op1 hE.tr hE.kf (fun k h => ⟨(H.al.rx.foot k h).1, not_tfR H.al.rx H.tt.b k h⟩), H.al.decX H.tt.a hE, bo_dec H.bo H.tt.a H.al.rx hE⟩
theorem As.dec2 (H : As W0 A1 L1 n1 A2 L2 n2 w h D u1 Q1 u2 Q2 a b x y bs s1 s2 t1 t2 g o W) (hE : De W W0.heap.size W0.heap.size A2 L2 y n2 w h D bs t' u' Q' W1) : As W0 A1 L1 n1 A2 L2 n2 w h D u1 Q1 u' Q' a b x y bs s1 s2 t1 t' g o W1 :=
  ⟨H.tt.op2 hE.tr hE.kf (fun k h => ⟨(H.al.ry.foot k h).1, not_tfR H.al.ry H.tt.a k h⟩), H.al.decY H.tt.b hE, bo_dec H.bo H.tt.b H.al.ry hE⟩
end
theorem nilT (w : World) (a : Addr) : (binOp .eql 45 (.pointer (some a)) (.pointer none)).run Try.prog w = .ok (.bool false) w := by
  have h : ∀ d : Nat, (Op.equalIn (d + 1) 45 (.pointer (some a)) (.pointer none)).run Try.prog w = .ok false w := fun d => by
    simp [Op.equalIn, run_underlying (P := Try.prog) (t := 45) Try.underlying45]
  simp only [binOp]
  simp [Op.equal, Op.maxDepth, h 9999]
/-- The bytes that are read. -/
def dat (x y v : Int) : List Int := [wrap64 (37 * v) % 256, wrap64 (wrap64 (91 * x) + wrap64 (7 * y)) % 256, 90]
theorem dat_bytes (x y v : Int) : Bi.bytes (dat x y v) := by
  intro z hz
  unfold dat at hz
  simp only [List.mem_cons, List.not_mem_nil, or_false] at hz
  rcases hz with rfl | rfl | rfl
  · omega
  · omega
  · omega
set_option maxHeartbeats 4000000
theorem alike_0 {W0 W : World} {A1 L1 A2 L2 w h D : Nat} {n1 n2 : Nat → Nat} {u : Int} {Q : Nat → Nat → Nat → Nd} (H : Tt W0 A1 L1 n1 A2 L2 n2 w h D u Q u Q W) (hJ : Jv w h u Q) (ok ox oy ov : Int) (hk : ok = 0) :
    Calls Try.prog 43 #[.pointer (some ⟨A1, 0, none⟩), .pointer (some ⟨A2, 0, none⟩), .agg #[.int .i64 ok, .int .i64 ox, .int .i64 oy, .int .i64 ov]] W fun e w' => e = .returned (.bool true) ∧ ∃ u' Q', Jv w h u' Q' ∧ Tt W0 A1 L1 n1 A2 L2 n2 w h D u' Q' u' Q' w' := by
  subst hk
  have hA := below_alloc (Below.refl _ W) (.cells #[.int .i64 0, .int .i64 ox, .int .i64 oy, .int .i64 ov] 56)
  have B0 : Hid (Bo (W.alloc (.cells #[.int .i64 0, .int .i64 ox, .int .i64 oy, .int .i64 ov] 56)) W.heap.size ⟨0, ox, oy, ov⟩) := Lib.hid (Bo.new W ⟨0, ox, oy, ov⟩)
  have T0 := Lib.hid (H.step hA)
  have JV := Lib.hid hJ
  have Z0 : Hid (W0.heap.size ≤ (W.alloc (.cells #[.int .i64 0, .int .i64 ox, .int .i64 oy, .int .i64 ov] 56)).heap.size) := Lib.hid (Nat.le_trans H.below.size hA.size)
  clear H hA hJ
  have nt := nilT
  go_enter Try.func43, Try.ntmps43
  go_wp2_with fail
  generalize W.heap.size = g at *
  generalize W.alloc (.cells #[.int .i64 0, .int .i64 ox, .int .i64 oy, .int .i64 ov] 56) = x0 at *
  refine (new_c _).mono ?_
  rintro e w1 ⟨a, rfl, h1, hb⟩
  have T1 := Lib.hid (T0.out.step hb)
  have B1 := Lib.hid (B0.out.below hb)
  have W1 := Lib.hid h1
  have Z1 := Lib.hid (And.intro Z0.out hb.size)
  clear h1 hb T0 B0
  go_wp2_with fail
  refine (new_c _).mono ?_
  rintro e w2 ⟨b, rfl, h1, hb⟩
  have T2 := Lib.hid (T1.out.step hb)
  have B2 := Lib.hid (B1.out.below hb)
  have W2 := Lib.hid (And.intro h1 hb)
  obtain ⟨q0, q1, q2, q3⟩ := B2.out.cells
  dsimp only at q0 q1 q2 q3
  clear h1 hb T1 B1
  go_wp2_with fail
  have hbd := below_alloc (Below.refl _ w2) (.cells ((dat ox oy ov).map (Value.int .u8)).toArray 5)
  have HD := holdsB_nw w2 (dat ox oy ov)
  change HoldsB (w2.alloc (.cells #[.int .u8 (wrap64 (37 * ov) % 256), .int .u8 (wrap64 (wrap64 (91 * ox) + wrap64 (7 * oy)) % 256), .int .u8 90] 5)) _ _ at HD
  change Below _ _ (w2.alloc (.cells #[.int .u8 (wrap64 (37 * ov) % 256), .int .u8 (wrap64 (wrap64 (91 * ox) + wrap64 (7 * oy)) % 256), .int .u8 90] 5)) at hbd
  have T3 := Lib.hid (T2.out.step hbd)
  have B3 := Lib.hid (B2.out.below hbd)
  have DB := Lib.hid (dat_bytes ox oy ov)
  have HB3 := Lib.hid hbd
  have DL : (dat ox oy ov).length = 3 := rfl
  have W3 := Lib.hid HD
  clear hbd T2 B2 q0 q1 q2 q3 HD
  generalize w2.alloc (.cells #[.int .u8 (wrap64 (37 * ov) % 256), .int .u8 (wrap64 (wrap64 (91 * ox) + wrap64 (7 * oy)) % 256), .int .u8 90] 5) = w3 at *
  have rn := fun (X : World) (m : Nat) (hX : Below w3.heap.size w3 X) => rnew_c X (dat ox oy ov) (some ⟨w2.heap.size, 0, none⟩) m (W3.out.call hX) (by simp) (by rw [DL]; omega)
  rw [DL] at rn
  generalize dat ox oy ov = bs at *
  generalize w2.heap.size = gd at rn ⊢
  refine (rn _ _ (Below.refl _ _)).mono ?_
  rintro e w4 ⟨x, rfl, h1, hb⟩
  have T4 := Lib.hid (T3.out.step hb)
  have B4 := Lib.hid (B3.out.below hb)
  have W4 := Lib.hid (And.intro h1 hb)
  clear h1 hb T3 B3
  go_wp2_with fail
  refine (rn _ _ W4.out.2).mono ?_
  rintro e w5 ⟨y, rfl, h1, hb⟩
  have S5 : Hid (As W0 A1 L1 n1 A2 L2 n2 w h D u Q u Q a b x y bs [] [] 0 0 g ⟨0, ox, oy, ov⟩ w5) := Lib.hid ⟨T4.out.step hb, al_mk (Z1.out.1) Z1.out.2 W1.out W2.out.1 W2.out.2 HB3.out W4.out.1 W4.out.2 h1 hb, B4.out.below hb⟩
  clear h1 hb T4 B4 rn W1 W2 W3 W4 HB3 Z0 Z1
  obtain ⟨q0, q1, q2, q3⟩ := S5.out.bo.cells
  dsimp only at q0 q1 q2 q3
  have c1 := setJ S5.out.tt.a JV.out ox oy ov
  go_wp2_with fail
  refine c1.mono ?_
  rintro e w6 ⟨rfl, hT, hkf⟩
  have S6 := Lib.hid (S5.out.set1 hT hkf)
  obtain ⟨q0, q1, q2, q3⟩ := S6.out.bo.cells
  dsimp only at q0 q1 q2 q3
  clear hT hkf c1 S5
  have c2 := setJ S6.out.tt.b JV.out ox oy ov
  have JN := Lib.hid (jv_set (w := w) (h := h) (u := u) (Q := Q) ox oy ov)
  generalize stE u w h ox oy ov = ee at *
  generalize seQ u w h Q ox oy ov = QN at *
  go_wp2_with fail
  refine c2.mono ?_
  rintro e w7 ⟨rfl, hT, hkf⟩
  have S7 := Lib.hid (S6.out.set2 hT hkf)
  obtain ⟨q0, q1, q2, q3⟩ := S7.out.bo.cells
  dsimp only at q0 q1 q2 q3
  clear hT hkf c2 S6
  have v1 := value_c S7.out.tt.b ox oy
  go_wp2_with fail
  refine v1.mono ?_
  rintro e z1 ⟨rfl, hb⟩
  have Z1 := Lib.hid (S7.out.step hb)
  obtain ⟨q0, q1, q2, q3⟩ := Z1.out.bo.cells
  dsimp only at q0 q1 q2 q3
  clear v1 hb
  have v2 := value_c Z1.out.tt.a ox oy
  go_wp2_with fail
  refine v2.mono ?_
  rintro e z2 ⟨rfl, hb⟩
  have Z2 := Lib.hid (Z1.out.step hb)
  clear v2 hb q0 q1 q2 q3 Z1
  have la := len_c _ _ _ _ Z2.out.al.wa
  have lb := len_c _ _ _ _ Z2.out.al.wb
  have ya := bytes_c _ _ _ _ Z2.out.al.wa (by simp)
  generalize vlV w h _ ox oy = vv at *
  generalize vlB w h _ ox oy = vb at *
  go_wp2_with (first | (go_at_call 25; first | ((with_reducible refine la.mono ?_); rintro e wn ⟨rfl, rfl⟩) | ((with_reducible refine lb.mono ?_); rintro e wn ⟨rfl, rfl⟩)))
  refine ya.mono ?_
  rintro e z3 ⟨g1, p1, rfl, hr1, _, hb⟩
  have Z3 := Lib.hid (Z2.out.step hb)
  have yb := bytes_c _ _ _ _ Z3.out.al.wb (by simp)
  have HR := Lib.hid hr1.holds
  clear ya la lb hr1 hb
  go_wp2_with fail
  refine yb.mono ?_
  rintro e z4 ⟨g2, p2, rfl, hr2, _, hb⟩
  have Z4 := Lib.hid (Z3.out.step hb)
  have sm := fun n m k hn => same_t z4 _ _ _ n m k hn (HR.out.call hb) hr2.holds
  clear yb hb
  go_wp2_with fail
  refine (sm _ _ _ rfl).mono ?_
  rintro e wn ⟨rfl, rfl⟩
  clear sm hr2
  go_wp2_with fail
  go_ret
  exact ⟨by simp, u, QN, JN.out, Z4.out.tt⟩
theorem alike_1 {W0 W : World} {A1 L1 A2 L2 w h D : Nat} {n1 n2 : Nat → Nat} {u : Int} {Q : Nat → Nat → Nat → Nd} (H : Tt W0 A1 L1 n1 A2 L2 n2 w h D u Q u Q W) (hJ : Jv w h u Q) (ok ox oy ov : Int) (hk : ok = 1) :
    Calls Try.prog 43 #[.pointer (some ⟨A1, 0, none⟩), .pointer (some ⟨A2, 0, none⟩), .agg #[.int .i64 ok, .int .i64 ox, .int .i64 oy, .int .i64 ov]] W fun e w' => e = .returned (.bool true) ∧ ∃ u' Q', Jv w h u' Q' ∧ Tt W0 A1 L1 n1 A2 L2 n2 w h D u' Q' u' Q' w' := by
  subst hk
  have hA := below_alloc (Below.refl _ W) (.cells #[.int .i64 1, .int .i64 ox, .int .i64 oy, .int .i64 ov] 56)
  have B0 : Hid (Bo (W.alloc (.cells #[.int .i64 1, .int .i64 ox, .int .i64 oy, .int .i64 ov] 56)) W.heap.size ⟨1, ox, oy, ov⟩) := Lib.hid (Bo.new W ⟨1, ox, oy, ov⟩)
  have T0 := Lib.hid (H.step hA)
  have JV := Lib.hid hJ
  have Z0 : Hid (W0.heap.size ≤ (W.alloc (.cells #[.int .i64 1, .int .i64 ox, .int .i64 oy, .int .i64 ov] 56)).heap.size) := Lib.hid (Nat.le_trans H.below.size hA.size)
  clear H hA hJ
  have nt := nilT
  go_enter Try.func43, Try.ntmps43
  go_wp2_with fail
  generalize W.heap.size = g at *
  generalize W.alloc (.cells #[.int .i64 1, .int .i64 ox, .int .i64 oy, .int .i64 ov] 56) = x0 at *
  refine (new_c _).mono ?_
  rintro e w1 ⟨a, rfl, h1, hb⟩
  have T1 := Lib.hid (T0.out.step hb)
  have B1 := Lib.hid (B0.out.below hb)
  have W1 := Lib.hid h1
  have Z1 := Lib.hid (And.intro Z0.out hb.size)
  clear h1 hb T0 B0
  go_wp2_with fail
  refine (new_c _).mono ?_
  rintro e w2 ⟨b, rfl, h1, hb⟩
  have T2 := Lib.hid (T1.out.step hb)
  have B2 := Lib.hid (B1.out.below hb)
  have W2 := Lib.hid (And.intro h1 hb)
  obtain ⟨q0, q1, q2, q3⟩ := B2.out.cells
  dsimp only at q0 q1 q2 q3
  clear h1 hb T1 B1
  go_wp2_with fail
  have hbd := below_alloc (Below.refl _ w2) (.cells ((dat ox oy ov).map (Value.int .u8)).toArray 5)
  have HD := holdsB_nw w2 (dat ox oy ov)
  change HoldsB (w2.alloc (.cells #[.int .u8 (wrap64 (37 * ov) % 256), .int .u8 (wrap64 (wrap64 (91 * ox) + wrap64 (7 * oy)) % 256), .int .u8 90] 5)) _ _ at HD
  change Below _ _ (w2.alloc (.cells #[.int .u8 (wrap64 (37 * ov) % 256), .int .u8 (wrap64 (wrap64 (91 * ox) + wrap64 (7 * oy)) % 256), .int .u8 90] 5)) at hbd
  have T3 := Lib.hid (T2.out.step hbd)
  have B3 := Lib.hid (B2.out.below hbd)
  have DB := Lib.hid (dat_bytes ox oy ov)
  have HB3 := Lib.hid hbd
  have DL : (dat ox oy ov).length = 3 := rfl
  have W3 := Lib.hid HD
  clear hbd T2 B2 q0 q1 q2 q3 HD
  generalize w2.alloc (.cells #[.int .u8 (wrap64 (37 * ov) % 256), .int .u8 (wrap64 (wrap64 (91 * ox) + wrap64 (7 * oy)) % 256), .int .u8 90] 5) = w3 at *
  have rn := fun (X : World) (m : Nat) (hX : Below w3.heap.size w3 X) => rnew_c X (dat ox oy ov) (some ⟨w2.heap.size, 0, none⟩) m (W3.out.call hX) (by simp) (by rw [DL]; omega)
  rw [DL] at rn
  generalize dat ox oy ov = bs at *
  generalize w2.heap.size = gd at rn ⊢
  refine (rn _ _ (Below.refl _ _)).mono ?_
  rintro e w4 ⟨x, rfl, h1, hb⟩
  have T4 := Lib.hid (T3.out.step hb)
  have B4 := Lib.hid (B3.out.below hb)
  have W4 := Lib.hid (And.intro h1 hb)
  clear h1 hb T3 B3
  go_wp2_with fail
  refine (rn _ _ W4.out.2).mono ?_
  rintro e w5 ⟨y, rfl, h1, hb⟩
  have S5 : Hid (As W0 A1 L1 n1 A2 L2 n2 w h D u Q u Q a b x y bs [] [] 0 0 g ⟨1, ox, oy, ov⟩ w5) := Lib.hid ⟨T4.out.step hb, al_mk (Z1.out.1) Z1.out.2 W1.out W2.out.1 W2.out.2 HB3.out W4.out.1 W4.out.2 h1 hb, B4.out.below hb⟩
  clear h1 hb T4 B4 rn W1 W2 W3 W4 HB3 Z0 Z1
  obtain ⟨q0, q1, q2, q3⟩ := S5.out.bo.cells
  dsimp only at q0 q1 q2 q3
  have c1 := encode_c S5.out.tt.a S5.out.al.wa Bi.bits_nil (by simp) ox oy ov
  go_wp2_with fail
  refine c1.mono ?_
  rintro e w6 ⟨rfl, hE⟩
  have LN := Lib.hid hE.len
  have S6 := Lib.hid (S5.out.enc1 hE)
  obtain ⟨q0, q1, q2, q3⟩ := S6.out.bo.cells
  dsimp only at q0 q1 q2 q3
  clear hE c1 S5
  have c2 := encode_c S6.out.tt.b S6.out.al.wb Bi.bits_nil (by simp) ox oy ov
  have JN := Lib.hid (jv_enc (D := D) (s := []) ox oy ov JV.out)
  generalize enE w h u ox oy ov = ee at *
  generalize enS Q w h D u [] ox oy ov = sN at *
  generalize enU w h u ox oy ov = uN at *
  generalize enQ Q w h D u [] ox oy ov = QN at *
  go_wp2_with fail
  refine c2.mono ?_
  rintro e w7 ⟨rfl, hE⟩
  have S7 := Lib.hid (S6.out.enc2 hE)
  obtain ⟨q0, q1, q2, q3⟩ := S7.out.bo.cells
  dsimp only at q0 q1 q2 q3
  clear hE c2 S6
  have v1 := value_c S7.out.tt.b ox oy
  go_wp2_with fail
  refine v1.mono ?_
  rintro e z1 ⟨rfl, hb⟩
  have Z1 := Lib.hid (S7.out.step hb)
  obtain ⟨q0, q1, q2, q3⟩ := Z1.out.bo.cells
  dsimp only at q0 q1 q2 q3
  clear v1 hb
  have v2 := value_c Z1.out.tt.a ox oy
  go_wp2_with fail
  refine v2.mono ?_
  rintro e z2 ⟨rfl, hb⟩
  have Z2 := Lib.hid (Z1.out.step hb)
  clear v2 hb q0 q1 q2 q3 Z1
  have la := len_c _ _ _ _ Z2.out.al.wa
  have lb := len_c _ _ _ _ Z2.out.al.wb
  have ya := bytes_c _ _ _ _ Z2.out.al.wa (by have := LN.out; simp at this; omega)
  generalize vlV w h _ ox oy = vv at *
  generalize vlB w h _ ox oy = vb at *
  go_wp2_with (first | (go_at_call 25; first | ((with_reducible refine la.mono ?_); rintro e wn ⟨rfl, rfl⟩) | ((with_reducible refine lb.mono ?_); rintro e wn ⟨rfl, rfl⟩)))
  refine ya.mono ?_
  rintro e z3 ⟨g1, p1, rfl, hr1, _, hb⟩
  have Z3 := Lib.hid (Z2.out.step hb)
  have yb := bytes_c _ _ _ _ Z3.out.al.wb (by have := LN.out; simp at this; omega)
  have HR := Lib.hid hr1.holds
  clear ya la lb hr1 hb
  go_wp2_with fail
  refine yb.mono ?_
  rintro e z4 ⟨g2, p2, rfl, hr2, _, hb⟩
  have Z4 := Lib.hid (Z3.out.step hb)
  have sm := fun n m k hn => same_t z4 _ _ _ n m k hn (HR.out.call hb) hr2.holds
  clear yb hb
  go_wp2_with fail
  refine (sm _ _ _ rfl).mono ?_
  rintro e wn ⟨rfl, rfl⟩
  clear sm hr2
  go_wp2_with fail
  go_ret
  exact ⟨by simp, uN, QN, JN.out, Z4.out.tt⟩
theorem alike_3 {W0 W : World} {A1 L1 A2 L2 w h D : Nat} {n1 n2 : Nat → Nat} {u : Int} {Q : Nat → Nat → Nat → Nd} (H : Tt W0 A1 L1 n1 A2 L2 n2 w h D u Q u Q W) (hJ : Jv w h u Q) (ok ox oy ov : Int) (hk : ok = 3) :
    Calls Try.prog 43 #[.pointer (some ⟨A1, 0, none⟩), .pointer (some ⟨A2, 0, none⟩), .agg #[.int .i64 ok, .int .i64 ox, .int .i64 oy, .int .i64 ov]] W fun e w' => e = .returned (.bool true) ∧ ∃ u' Q', Jv w h u' Q' ∧ Tt W0 A1 L1 n1 A2 L2 n2 w h D u' Q' u' Q' w' := by
  subst hk
  have hA := below_alloc (Below.refl _ W) (.cells #[.int .i64 3, .int .i64 ox, .int .i64 oy, .int .i64 ov] 56)
  have B0 : Hid (Bo (W.alloc (.cells #[.int .i64 3, .int .i64 ox, .int .i64 oy, .int .i64 ov] 56)) W.heap.size ⟨3, ox, oy, ov⟩) := Lib.hid (Bo.new W ⟨3, ox, oy, ov⟩)
  have T0 := Lib.hid (H.step hA)
  have JV := Lib.hid hJ
  have Z0 : Hid (W0.heap.size ≤ (W.alloc (.cells #[.int .i64 3, .int .i64 ox, .int .i64 oy, .int .i64 ov] 56)).heap.size) := Lib.hid (Nat.le_trans H.below.size hA.size)
  clear H hA hJ
  have nt := nilT
  go_enter Try.func43, Try.ntmps43
  go_wp2_with fail
  generalize W.heap.size = g at *
  generalize W.alloc (.cells #[.int .i64 3, .int .i64 ox, .int .i64 oy, .int .i64 ov] 56) = x0 at *
  refine (new_c _).mono ?_
  rintro e w1 ⟨a, rfl, h1, hb⟩
  have T1 := Lib.hid (T0.out.step hb)
  have B1 := Lib.hid (B0.out.below hb)
  have W1 := Lib.hid h1
  have Z1 := Lib.hid (And.intro Z0.out hb.size)
  clear h1 hb T0 B0
  go_wp2_with fail
  refine (new_c _).mono ?_
  rintro e w2 ⟨b, rfl, h1, hb⟩
  have T2 := Lib.hid (T1.out.step hb)
  have B2 := Lib.hid (B1.out.below hb)
  have W2 := Lib.hid (And.intro h1 hb)
  obtain ⟨q0, q1, q2, q3⟩ := B2.out.cells
  dsimp only at q0 q1 q2 q3
  clear h1 hb T1 B1
  go_wp2_with fail
  have hbd := below_alloc (Below.refl _ w2) (.cells ((dat ox oy ov).map (Value.int .u8)).toArray 5)
  have HD := holdsB_nw w2 (dat ox oy ov)
  change HoldsB (w2.alloc (.cells #[.int .u8 (wrap64 (37 * ov) % 256), .int .u8 (wrap64 (wrap64 (91 * ox) + wrap64 (7 * oy)) % 256), .int .u8 90] 5)) _ _ at HD
  change Below _ _ (w2.alloc (.cells #[.int .u8 (wrap64 (37 * ov) % 256), .int .u8 (wrap64 (wrap64 (91 * ox) + wrap64 (7 * oy)) % 256), .int .u8 90] 5)) at hbd
  have T3 := Lib.hid (T2.out.step hbd)
  have B3 := Lib.hid (B2.out.below hbd)
  have DB := Lib.hid (dat_bytes ox oy ov)
  have HB3 := Lib.hid hbd
  have DL : (dat ox oy ov).length = 3 := rfl
  have W3 := Lib.hid HD
  clear hbd T2 B2 q0 q1 q2 q3 HD
  generalize w2.alloc (.cells #[.int .u8 (wrap64 (37 * ov) % 256), .int .u8 (wrap64 (wrap64 (91 * ox) + wrap64 (7 * oy)) % 256), .int .u8 90] 5) = w3 at *
  have rn := fun (X : World) (m : Nat) (hX : Below w3.heap.size w3 X) => rnew_c X (dat ox oy ov) (some ⟨w2.heap.size, 0, none⟩) m (W3.out.call hX) (by simp) (by rw [DL]; omega)
  rw [DL] at rn
  generalize dat ox oy ov = bs at *
  generalize w2.heap.size = gd at rn ⊢
  refine (rn _ _ (Below.refl _ _)).mono ?_
  rintro e w4 ⟨x, rfl, h1, hb⟩
  have T4 := Lib.hid (T3.out.step hb)
  have B4 := Lib.hid (B3.out.below hb)
  have W4 := Lib.hid (And.intro h1 hb)
  clear h1 hb T3 B3
  go_wp2_with fail
  refine (rn _ _ W4.out.2).mono ?_
  rintro e w5 ⟨y, rfl, h1, hb⟩
  have S5 : Hid (As W0 A1 L1 n1 A2 L2 n2 w h D u Q u Q a b x y bs [] [] 0 0 g ⟨3, ox, oy, ov⟩ w5) := Lib.hid ⟨T4.out.step hb, al_mk (Z1.out.1) Z1.out.2 W1.out W2.out.1 W2.out.2 HB3.out W4.out.1 W4.out.2 h1 hb, B4.out.below hb⟩
  clear h1 hb T4 B4 rn W1 W2 W3 W4 HB3 Z0 Z1
  obtain ⟨q0, q1, q2, q3⟩ := S5.out.bo.cells
  dsimp only at q0 q1 q2 q3
  have c1 := decode_c S5.out.tt.a S5.out.al.rx (by omega) DB.out (by omega) ox oy ov
  go_wp2_with fail
  refine c1.mono ?_
  rintro e w6 ⟨rfl, hE⟩
  have S6 := Lib.hid (S5.out.dec1 hE)
  obtain ⟨q0, q1, q2, q3⟩ := S6.out.bo.cells
  dsimp only at q0 q1 q2 q3
  clear hE c1 S5
  have c2 := decode_c S6.out.tt.b S6.out.al.ry (by omega) DB.out (by omega) ox oy ov
  have JN := Lib.hid (jv_dec (D := D) (tt := 0) (bs := bs) ox oy ov JV.out)
  generalize deE bs Q w h D u 0 ox oy ov = ee at *
  generalize deB bs Q w h D u 0 ox oy ov = db at *
  generalize deT bs Q w h D u 0 ox oy ov = tN at *
  generalize deU bs Q w h D u 0 ox oy ov = uN at *
  generalize deQ bs Q w h D u 0 ox oy ov = QN at *
  go_wp2_with fail
  refine c2.mono ?_
  rintro e w7 ⟨rfl, hE⟩
  have S7 := Lib.hid (S6.out.dec2 hE)
  obtain ⟨q0, q1, q2, q3⟩ := S7.out.bo.cells
  dsimp only at q0 q1 q2 q3
  clear hE c2 S6
  have v1 := value_c S7.out.tt.b ox oy
  go_wp2_with fail
  refine v1.mono ?_
  rintro e z1 ⟨rfl, hb⟩
  have Z1 := Lib.hid (S7.out.step hb)
  obtain ⟨q0, q1, q2, q3⟩ := Z1.out.bo.cells
  dsimp only at q0 q1 q2 q3
  clear v1 hb
  have v2 := value_c Z1.out.tt.a ox oy
  go_wp2_with fail
  refine v2.mono ?_
  rintro e z2 ⟨rfl, hb⟩
  have Z2 := Lib.hid (Z1.out.step hb)
  clear v2 hb q0 q1 q2 q3 Z1
  have la := len_c _ _ _ _ Z2.out.al.wa
  have lb := len_c _ _ _ _ Z2.out.al.wb
  have ya := bytes_c _ _ _ _ Z2.out.al.wa (by simp)
  generalize vlV w h _ ox oy = vv at *
  generalize vlB w h _ ox oy = vb at *
  go_wp2_with (first | (go_at_call 25; first | ((with_reducible refine la.mono ?_); rintro e wn ⟨rfl, rfl⟩) | ((with_reducible refine lb.mono ?_); rintro e wn ⟨rfl, rfl⟩)))
  refine ya.mono ?_
  rintro e z3 ⟨g1, p1, rfl, hr1, _, hb⟩
  have Z3 := Lib.hid (Z2.out.step hb)
  have yb := bytes_c _ _ _ _ Z3.out.al.wb (by simp)
  have HR := Lib.hid hr1.holds
  clear ya la lb hr1 hb
  go_wp2_with fail
  refine yb.mono ?_
  rintro e z4 ⟨g2, p2, rfl, hr2, _, hb⟩
  have Z4 := Lib.hid (Z3.out.step hb)
  have sm := fun n m k hn => same_t z4 _ _ _ n m k hn (HR.out.call hb) hr2.holds
  clear yb hb
  go_wp2_with fail
  refine (sm _ _ _ rfl).mono ?_
  rintro e wn ⟨rfl, rfl⟩
  clear sm hr2
  go_wp2_with fail
  go_ret
  exact ⟨by simp, uN, QN, JN.out, Z4.out.tt⟩
theorem alike_o {W0 W : World} {A1 L1 A2 L2 w h D : Nat} {n1 n2 : Nat → Nat} {u : Int} {Q : Nat → Nat → Nat → Nd} (H : Tt W0 A1 L1 n1 A2 L2 n2 w h D u Q u Q W) (hJ : Jv w h u Q) (ok ox oy ov : Int) (k0 : ok ≠ 0) (k1 : ok ≠ 1) (k3 : ok ≠ 3) :
    Calls Try.prog 43 #[.pointer (some ⟨A1, 0, none⟩), .pointer (some ⟨A2, 0, none⟩), .agg #[.int .i64 ok, .int .i64 ox, .int .i64 oy, .int .i64 ov]] W fun e w' => e = .returned (.bool true) ∧ ∃ u' Q', Jv w h u' Q' ∧ Tt W0 A1 L1 n1 A2 L2 n2 w h D u' Q' u' Q' w' := by
  have g0 : (ok == 0) = false := by simpa using k0
  have g1 : (ok == 1) = false := by simpa using k1
  have g3 : (ok == 3) = false := by simpa using k3
  clear k0 k1 k3
  have hA := below_alloc (Below.refl _ W) (.cells #[.int .i64 ok, .int .i64 ox, .int .i64 oy, .int .i64 ov] 56)
  have B0 : Hid (Bo (W.alloc (.cells #[.int .i64 ok, .int .i64 ox, .int .i64 oy, .int .i64 ov] 56)) W.heap.size ⟨ok, ox, oy, ov⟩) := Lib.hid (Bo.new W ⟨ok, ox, oy, ov⟩)
  have T0 := Lib.hid (H.step hA)
  have JV := Lib.hid hJ
  have Z0 : Hid (W0.heap.size ≤ (W.alloc (.cells #[.int .i64 ok, .int .i64 ox, .int .i64 oy, .int .i64 ov] 56)).heap.size) := Lib.hid (Nat.le_trans H.below.size hA.size)
  clear H hA hJ
  have nt := nilT
  go_enter Try.func43, Try.ntmps43
  go_wp2_with fail
  generalize W.heap.size = g at *
  generalize W.alloc (.cells #[.int .i64 ok, .int .i64 ox, .int .i64 oy, .int .i64 ov] 56) = x0 at *
  refine (new_c _).mono ?_
  rintro e w1 ⟨a, rfl, h1, hb⟩
  have T1 := Lib.hid (T0.out.step hb)
  have B1 := Lib.hid (B0.out.below hb)
  have W1 := Lib.hid h1
  have Z1 := Lib.hid (And.intro Z0.out hb.size)
  clear h1 hb T0 B0
  go_wp2_with fail
  refine (new_c _).mono ?_
  rintro e w2 ⟨b, rfl, h1, hb⟩
  have T2 := Lib.hid (T1.out.step hb)
  have B2 := Lib.hid (B1.out.below hb)
  have W2 := Lib.hid (And.intro h1 hb)
  obtain ⟨q0, q1, q2, q3⟩ := B2.out.cells
  dsimp only at q0 q1 q2 q3
  clear h1 hb T1 B1
  go_wp2_with fail
  have hbd := below_alloc (Below.refl _ w2) (.cells ((dat ox oy ov).map (Value.int .u8)).toArray 5)
  have HD := holdsB_nw w2 (dat ox oy ov)
  change HoldsB (w2.alloc (.cells #[.int .u8 (wrap64 (37 * ov) % 256), .int .u8 (wrap64 (wrap64 (91 * ox) + wrap64 (7 * oy)) % 256), .int .u8 90] 5)) _ _ at HD
  change Below _ _ (w2.alloc (.cells #[.int .u8 (wrap64 (37 * ov) % 256), .int .u8 (wrap64 (wrap64 (91 * ox) + wrap64 (7 * oy)) % 256), .int .u8 90] 5)) at hbd
  have T3 := Lib.hid (T2.out.step hbd)
  have B3 := Lib.hid (B2.out.below hbd)
  have DB := Lib.hid (dat_bytes ox oy ov)
  have HB3 := Lib.hid hbd
  have DL : (dat ox oy ov).length = 3 := rfl
  have W3 := Lib.hid HD
  clear hbd T2 B2 q0 q1 q2 q3 HD
  generalize w2.alloc (.cells #[.int .u8 (wrap64 (37 * ov) % 256), .int .u8 (wrap64 (wrap64 (91 * ox) + wrap64 (7 * oy)) % 256), .int .u8 90] 5) = w3 at *
  have rn := fun (X : World) (m : Nat) (hX : Below w3.heap.size w3 X) => rnew_c X (dat ox oy ov) (some ⟨w2.heap.size, 0, none⟩) m (W3.out.call hX) (by simp) (by rw [DL]; omega)
  rw [DL] at rn
  generalize dat ox oy ov = bs at *
  generalize w2.heap.size = gd at rn ⊢
  refine (rn _ _ (Below.refl _ _)).mono ?_
  rintro e w4 ⟨x, rfl, h1, hb⟩
  have T4 := Lib.hid (T3.out.step hb)
  have B4 := Lib.hid (B3.out.below hb)
  have W4 := Lib.hid (And.intro h1 hb)
  clear h1 hb T3 B3
  go_wp2_with fail
  refine (rn _ _ W4.out.2).mono ?_
  rintro e w5 ⟨y, rfl, h1, hb⟩
  have S5 : Hid (As W0 A1 L1 n1 A2 L2 n2 w h D u Q u Q a b x y bs [] [] 0 0 g ⟨ok, ox, oy, ov⟩ w5) := Lib.hid ⟨T4.out.step hb, al_mk (Z1.out.1) Z1.out.2 W1.out W2.out.1 W2.out.2 HB3.out W4.out.1 W4.out.2 h1 hb, B4.out.below hb⟩
  clear h1 hb T4 B4 rn W1 W2 W3 W4 HB3 Z0 Z1
  obtain ⟨q0, q1, q2, q3⟩ := S5.out.bo.cells
  dsimp only at q0 q1 q2 q3
  have v1 := value_c S5.out.tt.b ox oy
  go_wp2_with fail
  refine v1.mono ?_
  rintro e z1 ⟨rfl, hb⟩
  have Z1 := Lib.hid (S5.out.step hb)
  obtain ⟨q0, q1, q2, q3⟩ := Z1.out.bo.cells
  dsimp only at q0 q1 q2 q3
  clear v1 hb
  have v2 := value_c Z1.out.tt.a ox oy
  go_wp2_with fail
  refine v2.mono ?_
  rintro e z2 ⟨rfl, hb⟩
  have Z2 := Lib.hid (Z1.out.step hb)
  clear v2 hb q0 q1 q2 q3 Z1
  have la := len_c _ _ _ _ Z2.out.al.wa
  have lb := len_c _ _ _ _ Z2.out.al.wb
  have ya := bytes_c _ _ _ _ Z2.out.al.wa (by simp)
  generalize vlV w h _ ox oy = vv at *
  generalize vlB w h _ ox oy = vb at *
  go_wp2_with (first | (go_at_call 25; first | ((with_reducible refine la.mono ?_); rintro e wn ⟨rfl, rfl⟩) | ((with_reducible refine lb.mono ?_); rintro e wn ⟨rfl, rfl⟩)))
  refine ya.mono ?_
  rintro e z3 ⟨g1, p1, rfl, hr1, _, hb⟩
  have Z3 := Lib.hid (Z2.out.step hb)
  have yb := bytes_c _ _ _ _ Z3.out.al.wb (by simp)
  have HR := Lib.hid hr1.holds
  clear ya la lb hr1 hb
  go_wp2_with fail
  refine yb.mono ?_
  rintro e z4 ⟨g2, p2, rfl, hr2, _, hb⟩
  have Z4 := Lib.hid (Z3.out.step hb)
  have sm := fun n m k hn => same_t z4 _ _ _ n m k hn (HR.out.call hb) hr2.holds
  clear yb hb
  go_wp2_with fail
  refine (sm _ _ _ rfl).mono ?_
  rintro e wn ⟨rfl, rfl⟩
  clear sm hr2
  go_wp2_with fail
  go_ret
  exact ⟨by simp, u, Q, JV.out, Z4.out.tt⟩
end Go.Proofs.Ytaddendclipkkaa
