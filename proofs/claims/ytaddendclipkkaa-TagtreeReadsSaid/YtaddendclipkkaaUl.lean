/-
  Layer 10: the code's tree and the reference's, side by side with two writers.
-/
import Derived.Test.YtaddendclipkkaaUg
import Derived.Test.YtaddendclipkkaaCb
set_option maxRecDepth 100000
namespace Go.Proofs.Ytaddendclipkkaa
open Go.RowKit

/-- Nodes of the code and of the reference that mean the same. -/
structure Rl (w h : Nat) (u : Int) (Qc Qr : Nat → Nat → Nat → Nd) : Prop where
  a : u = 0 → ∃ f, Qc = mkQ w h f xl0 xb0 ∧ (∀ x y, (Qr 0 x y).v = f x y) ∧ ∀ k x y, (Qr k x y).l = 0 ∧ (Qr k x y).b = false
  b : u = 1 → Qr = Qc
  c : u = 2 → ∀ k x y, (Qr k x y).l = (Qc k x y).l ∧ (Qr k x y).b = (Qc k x y).b
theorem Rl.jv {w h : Nat} {u : Int} {Qc Qr : Nat → Nat → Nat → Nd} (H : Rl w h u Qc Qr) : Jv w h u Qc := fun hu => (H.a hu).elim fun f z => ⟨f, z.1⟩
theorem Rl.lb {w h : Nat} {u : Int} {Qc Qr : Nat → Nat → Nat → Nd} (H : Rl w h u Qc Qr) (hu : 0 ≤ u ∧ u ≤ 2) (k x y : Nat) : (Qr k x y).l = (Qc k x y).l ∧ (Qr k x y).b = (Qc k x y).b := by
  rcases (show u = 0 ∨ u = 1 ∨ u = 2 by omega) with h0 | h0 | h0
  · obtain ⟨f, rfl, h1, h2⟩ := H.a h0
    exact h2 k x y
  · rw [H.b h0]; exact ⟨rfl, rfl⟩
  · exact H.c h0 k x y
theorem Rl.val {w h : Nat} {u : Int} {Qc Qr : Nat → Nat → Nat → Nd} (H : Rl w h u Qc Qr) (hu : 0 ≤ u ∧ u ≤ 2) (x y : Int) : vlV w h Qr x y = vlV w h Qc x y ∧ vlB w h Qr x y = vlB w h Qc x y := by
  have h1 := H.lb hu 0 x.toNat y.toNat
  unfold vlV vlB
  rw [h1.1, h1.2]
  exact ⟨rfl, rfl⟩
theorem Rl.new (w h : Nat) : Rl w h 0 (mkQ w h xf0 xl0 xb0) (fun _ _ _ => ⟨0, 0, false⟩) := ⟨fun _ => ⟨xf0, rfl, fun _ _ => rfl, fun _ _ _ => ⟨rfl, rfl⟩⟩, fun h => by omega, fun h => by omega⟩
theorem Rl.set {w h : Nat} {u : Int} {Qc Qr : Nat → Nat → Nat → Nd} (H : Rl w h u Qc Qr) (x y v : Int) : Rl w h u (seQ u w h Qc x y v) (usQ w h u Qr x y v) := by
  refine ⟨fun hu => ?_, fun hu => ?_, fun hu => ?_⟩
  · obtain ⟨f, rfl, h1, h2⟩ := H.a hu
    unfold seQ usQ
    rw [if_pos hu]
    refine ⟨_, rfl, fun X Y => ?_, fun k X Y => ?_⟩
    · unfold stF
      by_cases hc : u = 0 ∧ okT w h x y v 65535
      · rw [if_pos hc, if_pos hc]
        unfold upN upF
        by_cases hxy : X = x.toNat ∧ Y = y.toNat
        · rw [if_pos ⟨rfl, hxy⟩, if_pos hxy]
        · rw [if_neg (fun e => hxy e.2), if_neg hxy]
          exact h1 X Y
      · rw [if_neg hc, if_neg hc]
        exact h1 X Y
    · split
      · unfold upN
        split
        · exact h2 _ _ _
        · exact h2 _ _ _
      · exact h2 _ _ _
  · unfold seQ usQ
    rw [if_neg (by omega), if_neg (fun e => by omega)]
    exact H.b hu
  · unfold seQ usQ
    rw [if_neg (by omega), if_neg (fun e => by omega)]
    exact H.c hu
theorem Rl.eq {w h : Nat} {u : Int} {Qc Qr : Nat → Nat → Nat → Nd} (H : Rl w h u Qc Qr) (hu : 0 ≤ u ∧ u ≤ 1) : eQ w h u Qr = Qc := by
  unfold eQ
  by_cases h0 : u = 0
  · rw [if_pos h0]
    obtain ⟨f, rfl, h1, h2⟩ := H.a h0
    funext k x y
    unfold minQ mkQ
    have e : (fun X Y => (Qr 0 X Y).v) = f := by funext X Y; exact h1 X Y
    rw [e, (h2 k x y).1, (h2 k x y).2]
    rfl
  · rw [if_neg h0]
    exact H.b (by omega)
theorem Rl.enc {w h D : Nat} {u : Int} {Qc Qr : Nat → Nat → Nat → Nd} (H : Rl w h u Qc Qr) (hu : 0 ≤ u ∧ u ≤ 2) (s : List Int) (x y t : Int) :
    enS (eQ w h u Qr) w h D u s x y t = enS Qc w h D u s x y t ∧ Rl w h (enU w h u x y t) (enQ Qc w h D u s x y t) (ueQ w h D u Qr s x y t) := by
  by_cases hc : u = 2 ∨ ¬ okT w h x y t 65536
  · unfold enS enQ ueQ enU
    simp only [if_pos hc]
    exact ⟨trivial, H⟩
  · have e := H.eq (by omega)
    unfold ueQ
    rw [e, if_neg hc]
    refine ⟨rfl, ?_⟩
    have : enU w h u x y t = 1 := by unfold enU; rw [if_neg hc]
    rw [this]
    exact ⟨fun h => by omega, fun _ => rfl, fun h => by omega⟩
section
variable {W0 W W1 : World} {B B2 A L a b g v wd rh w h D : Nat} {nd : Nat → Nat} {u u' : Int} {Q Q' Qc Qr : Nat → Nat → Nat → Nd} {s s' : List Int}
theorem tr_typed (H : Tr W B A L nd w h D u Q) (k : Nat) (hk : Tf A L nd D k) : ∃ ty cs, (ty = 77 ∨ ty = 94 ∨ ty = 100) ∧ Blk W k ty cs := by
  rcases hk with rfl | rfl | ⟨i, hi, rfl⟩
  · obtain ⟨m, ho⟩ := H.obj
    exact ⟨_, _, .inl rfl, ho⟩
  · obtain ⟨cs, hl, _⟩ := H.lvs
    exact ⟨_, _, .inr (.inl rfl), hl⟩
  · obtain ⟨cs, hn, _⟩ := H.nds i hi
    exact ⟨_, _, .inr (.inr rfl), hn⟩
theorem ur_typed (H : Ur W B b g w h D u Q) (k : Nat) (hk : Uf b g k) : ∃ ty cs, (ty = 97 ∨ ty = 105) ∧ Blk W k ty cs := by
  rcases hk with rfl | rfl
  · obtain ⟨m, ho⟩ := H.obj
    exact ⟨_, _, .inl rfl, ho⟩
  · obtain ⟨cs, hn, _⟩ := H.nds
    exact ⟨_, _, .inr rfl, hn⟩
theorem tu_ne (H : Tr W B A L nd w h D u Q) (H' : Ur W B2 b g wd rh D u' Q') (k : Nat) (h1 : Tf A L nd D k) : ¬ Uf b g k := fun h2 => by
  obtain ⟨t1, c1, e1, b1⟩ := tr_typed H k h1
  obtain ⟨t2, c2, e2, b2⟩ := ur_typed H' k h2
  exact b1.ne b2 (by rcases e1 with rfl | rfl | rfl <;> rcases e2 with rfl | rfl <;> decide) rfl
theorem wu_ne (H : Wr W B a s) (H' : Ur W B2 b g w h D u Q) (k : Nat) (h1 : Fp W a k) : ¬ Uf b g k := fun h2 => by
  obtain ⟨t1, c1, e1, b1⟩ := wr_typed H k h1
  obtain ⟨t2, c2, e2, b2⟩ := ur_typed H' k h2
  exact b1.ne b2 (by rcases e1 with rfl | rfl <;> rcases e2 with rfl | rfl <;> decide) rfl
theorem tv_ne (H : Tr W B A L nd w h D u Q) (H' : Vr W B2 v s) (k : Nat) (h1 : Tf A L nd D k) : ¬ Fp W v k := fun h2 => by
  obtain ⟨t1, c1, e1, b1⟩ := tr_typed H k h1
  obtain ⟨t2, c2, e2, b2⟩ := vr_typed H' k h2
  exact b1.ne b2 (by rcases e1 with rfl | rfl | rfl <;> rcases e2 with rfl | rfl <;> decide) rfl
theorem wv_ne (H : Wr W B a s) (H' : Vr W B2 v s') (k : Nat) (h1 : Fp W a k) : ¬ Fp W v k := fun h2 => by
  obtain ⟨t1, c1, e1, b1⟩ := wr_typed H k h1
  obtain ⟨t2, c2, e2, b2⟩ := vr_typed H' k h2
  exact b1.ne b2 (by rcases e1 with rfl | rfl <;> rcases e2 with rfl | rfl <;> decide) rfl
end
/-- Both trees and both writers, made since a world. -/
structure Wt (W0 : World) (A L : Nat) (nd : Nat → Nat) (b g a v w h D : Nat) (u : Int) (Qc : Nat → Nat → Nat → Nd) (ur : Int) (Qr : Nat → Nat → Nat → Nd) (sc sr : List Int) (bx : List (Nat × OpT)) (W : World) : Prop where
  t : Tr W W0.heap.size A L nd w h D u Qc
  r : Ur W W0.heap.size b g w h D ur Qr
  wr : Wr W W0.heap.size a sc
  vr : Vr W W0.heap.size v sr
  bits : Bi.bits sc
  below : Below W0.heap.size W0 W
  bo : ∀ p, p ∈ bx → Bo W p.1 p.2
section
variable {W0 W W1 : World} {B A L a b g v q w h D : Nat} {nd : Nat → Nat} {u u' ur : Int} {Q Q' Qc Qr : Nat → Nat → Nat → Nd} {s s' sc sr : List Int} {o : OpT} {bx : List (Nat × OpT)}
theorem Wt.step (H : Wt W0 A L nd b g a v w h D u Qc ur Qr sc sr bx W) (hb : Below W.heap.size W W1) : Wt W0 A L nd b g a v w h D u Qc ur Qr sc sr bx W1 := ⟨H.t.below hb, H.r.below hb, H.wr.below hb, H.vr.below hb, H.bits, below_call H.below hb, fun p z => (H.bo p z).below hb⟩
theorem Wt.box (H : Wt W0 A L nd b g a v w h D u Qc ur Qr sc sr bx W) (hB : Bo W q o) : Wt W0 A L nd b g a v w h D u Qc ur Qr sc sr [(q, o)] W := ⟨H.t, H.r, H.wr, H.vr, H.bits, H.below, fun p hp => by simp at hp; subst hp; exact hB⟩
theorem Wt.drop (H : Wt W0 A L nd b g a v w h D u Qc ur Qr sc sr bx W) : Wt W0 A L nd b g a v w h D u Qc ur Qr sc sr [] W := ⟨H.t, H.r, H.wr, H.vr, H.bits, H.below, fun p hp => by simp at hp⟩
theorem Wt.cells (H : Wt W0 A L nd b g a v w h D u Qc ur Qr sc sr [(q, o)] W) : W.cell? ⟨q, 0, none⟩ = some (.int .i64 o.k) ∧ W.cell? ⟨q, 1, none⟩ = some (.int .i64 o.x) ∧ W.cell? ⟨q, 2, none⟩ = some (.int .i64 o.y) ∧ W.cell? ⟨q, 3, none⟩ = some (.int .i64 o.v) := (H.bo (q, o) (by simp)).cells
theorem not_bu (H : Bo W q o) (H' : Ur W B b g w h D u Q) : ¬ Uf b g q := fun h2 => by
  obtain ⟨t2, c2, e2, b2⟩ := ur_typed H' q h2
  exact Blk.ne H b2 (by rcases e2 with rfl | rfl <;> decide) rfl
theorem not_bv (H : Bo W q o) (H' : Vr W B v s) : ¬ Fp W v q := not_vp H' H (by decide)
theorem Wt.codeS (H : Wt W0 A L nd b g a v w h D u Qc ur Qr sc sr bx W) (hT : Tr W1 W0.heap.size A L nd w h D u' Q') (hk : Kf (Tf A L nd D) W W1) : Wt W0 A L nd b g a v w h D u' Q' ur Qr sc sr bx W1 :=
  ⟨hT, H.r.keep fun k hf => hk.block k (H.r.foot k hf).2 (fun h1 => tu_ne H.t H.r k h1 hf), H.wr.keep fun k hf => hk.block k (H.wr.foot k hf).2 (not_tf H.wr H.t k hf), H.vr.keep fun k hf => hk.block k (H.vr.foot k hf).2 (fun h1 => tv_ne H.t H.vr k h1 hf), H.bits,
    H.below.trans (hk.below (fun k hk => (H.t.foot k hk).1) H.below.size), fun p z => (H.bo p z).set H.t hk⟩
theorem Wt.refS (H : Wt W0 A L nd b g a v w h D u Qc ur Qr sc sr bx W) (hU : Ur W1 W0.heap.size b g w h D u' Q') (hk : Kf (Uf b g) W W1) : Wt W0 A L nd b g a v w h D u Qc u' Q' sc sr bx W1 :=
  ⟨H.t.keep fun k hf => hk.block k (H.t.foot k hf).2 (tu_ne H.t H.r k hf), hU, H.wr.keep fun k hf => hk.block k (H.wr.foot k hf).2 (wu_ne H.wr H.r k hf), H.vr.keep fun k hf => hk.block k (H.vr.foot k hf).2 (not_uf H.vr H.r k hf), H.bits,
    H.below.trans (hk.below (fun k hk => (H.r.foot k hk).1) H.below.size), fun p z => (hk.block p.1 (Blk.lt (H.bo p z)) (not_bu (H.bo p z) H.r)).trans (H.bo p z)⟩
theorem Wt.codeE (H : Wt W0 A L nd b g a v w h D u Qc ur Qr sc sr bx W) (hE : En W W0.heap.size W0.heap.size A L a nd w h D u Qc sc s' u' Q' W1) : Wt W0 A L nd b g a v w h D u' Q' ur Qr s' sr bx W1 :=
  ⟨hE.tr, H.r.keep fun k hf => hE.kf.block k (H.r.foot k hf).2 (fun hn => hn.elim (fun h1 => wu_ne H.wr H.r k h1 hf) (fun h1 => tu_ne H.t H.r k h1 hf)), hE.wr, H.vr.keep fun k hf => hE.kf.block k (H.vr.foot k hf).2 (fun hn => hn.elim (fun h1 => wv_ne H.wr H.vr k h1 hf) (fun h1 => tv_ne H.t H.vr k h1 hf)), hE.bits,
    H.below.trans (hE.kf.below (fun k hk => hk.elim (fun h1 => (H.wr.foot k h1).1) (fun h1 => (H.t.foot k h1).1)) H.below.size), fun p z => (H.bo p z).enc H.t H.wr hE⟩
theorem Wt.refE (H : Wt W0 A L nd b g a v w h D u Qc ur Qr sc sr bx W) (hE : Eu W W0.heap.size W0.heap.size b g v w h D s' u' Q' W1) : Wt W0 A L nd b g a v w h D u Qc u' Q' sc s' bx W1 :=
  ⟨H.t.keep fun k hf => hE.kf.block k (H.t.foot k hf).2 (fun hn => hn.elim (fun h1 => tv_ne H.t H.vr k hf h1) (fun h1 => tu_ne H.t H.r k hf h1)), hE.ur, H.wr.keep fun k hf => hE.kf.block k (H.wr.foot k hf).2 (fun hn => hn.elim (fun h1 => wv_ne H.wr H.vr k hf h1) (fun h1 => wu_ne H.wr H.r k hf h1)), hE.vr, H.bits,
    H.below.trans (hE.kf.below (fun k hk => hk.elim (fun h1 => (H.vr.foot k h1).1) (fun h1 => (H.r.foot k h1).1)) H.below.size), fun p z => (hE.kf.block p.1 (Blk.lt (H.bo p z)) (fun hn => hn.elim (not_bv (H.bo p z) H.vr) (not_bu (H.bo p z) H.r))).trans (H.bo p z)⟩
end
theorem vlow {w : World} {B B' a : Nat} {l : List Int} (h : Vr w B a l) (hB : B' ≤ B) : Vr w B' a l := by
  obtain ⟨sv, h⟩ := h
  refine ⟨sv, ⟨Nat.le_trans hB h.ge, h.blk, h.own.1, ?_⟩⟩
  rcases h.own.2 with h1 | ⟨g, cap, cur, e1, e2, e3⟩
  · exact .inl h1
  · exact .inr ⟨g, cap, cur, e1, Nat.le_trans hB e2, e3⟩
/-- Both writers, no trees. -/
structure Nt (W0 : World) (a v : Nat) (bx : List (Nat × OpT)) (W : World) : Prop where
  wr : Wr W W0.heap.size a []
  vr : Vr W W0.heap.size v []
  below : Below W0.heap.size W0 W
  bo : ∀ p, p ∈ bx → Bo W p.1 p.2
section
variable {W0 W W1 : World} {a v q : Nat} {o : OpT} {bx : List (Nat × OpT)}
theorem Nt.step (H : Nt W0 a v bx W) (hb : Below W.heap.size W W1) : Nt W0 a v bx W1 := ⟨H.wr.below hb, H.vr.below hb, below_call H.below hb, fun p z => (H.bo p z).below hb⟩
theorem Nt.box (H : Nt W0 a v bx W) (hB : Bo W q o) : Nt W0 a v [(q, o)] W := ⟨H.wr, H.vr, H.below, fun p hp => by simp at hp; subst hp; exact hB⟩
theorem Nt.drop (H : Nt W0 a v bx W) : Nt W0 a v [] W := ⟨H.wr, H.vr, H.below, fun p hp => by simp at hp⟩
theorem Nt.cells (H : Nt W0 a v [(q, o)] W) : W.cell? ⟨q, 0, none⟩ = some (.int .i64 o.k) ∧ W.cell? ⟨q, 1, none⟩ = some (.int .i64 o.x) ∧ W.cell? ⟨q, 2, none⟩ = some (.int .i64 o.y) ∧ W.cell? ⟨q, 3, none⟩ = some (.int .i64 o.v) := (H.bo (q, o) (by simp)).cells
end
theorem usetN (x y v : Int) (W : World) : Calls Try.prog 34 #[.pointer none, .int .i64 x, .int .i64 y, .int .i64 v] W fun e w' => e = .returned (.int .i64 6) ∧ W = w' := by
  go_enter Try.func34, Try.ntmps34
  go_wp2_with fail
  go_ret
  exact ⟨rfl, rfl⟩
theorem uencN (q : Option Addr) (x y v : Int) (W : World) : Calls Try.prog 36 #[.pointer none, .pointer q, .int .i64 x, .int .i64 y, .int .i64 v] W fun e w' => e = .returned (.int .i64 6) ∧ W = w' := by
  go_enter Try.func36, Try.ntmps36
  go_wp2_with fail
  go_ret
  exact ⟨rfl, rfl⟩
theorem uvalueN (x y : Int) (W : World) : Calls Try.prog 38 #[.pointer none, .int .i64 x, .int .i64 y] W fun e w' => e = .returned (.tuple #[.int .i64 0, .bool false]) ∧ Below W.heap.size W w' := by
  go_enter Try.func38, Try.ntmps38
  go_upto_region 1 with fail
  go_quiet (fail)
  go_wp2_with fail
  go_ret2
  exact ⟨rfl, drewN_below _ _⟩
end Go.Proofs.Ytaddendclipkkaa
