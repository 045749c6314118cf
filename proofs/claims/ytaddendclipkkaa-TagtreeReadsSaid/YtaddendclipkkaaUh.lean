/-
  Layer 10: the nodes of the reference while it decodes.
-/
import Derived.Test.YtaddendclipkkaaUf
import Derived.Test.YtaddendclipkkaaSc
set_option maxRecDepth 100000
namespace Go.Proofs.Ytaddendclipkkaa
open Go.RowKit

/-- Nodes in a block. -/
def Un (W : World) (g w h D : Nat) (Q : Nat → Nat → Nat → Nd) : Prop := ∃ cs, Blk W g 105 cs ∧ ∀ k x y, k < D → x < dm w k → y < dm h k → cs[ix w h k x y * 3]? = some (.int .i64 (Q k x y).v) ∧ cs[ix w h k x y * 3 + 1]? = some (.int .i64 (Q k x y).l) ∧ cs[ix w h k x y * 3 + 2]? = some (.bool (Q k x y).b)
/-- Each index is that of a node. -/
theorem ix_all {w h : Nat} (hw : 1 ≤ w) (hh : 1 ≤ h) : ∀ (D i : Nat), i < bs w h D → ∃ k x y, k < D ∧ x < dm w k ∧ y < dm h k ∧ i = ix w h k x y
  | 0, i, hi => by exact absurd hi (by simp [bs])
  | D + 1, i, hi => by
    by_cases h1 : i < bs w h D
    · obtain ⟨k, x, y, a, b, c, d⟩ := ix_all hw hh D i h1
      exact ⟨k, x, y, by omega, b, c, d⟩
    · have e : bs w h (D + 1) = bs w h D + dm w D * dm h D := rfl
      have hp := dm_pos hw D
      have hj : i - bs w h D < dm w D * dm h D := by omega
      refine ⟨D, (i - bs w h D) % dm w D, (i - bs w h D) / dm w D, by omega, Nat.mod_lt _ (by omega), Nat.div_lt_of_lt_mul hj, ?_⟩
      unfold ix
      rw [Nat.mul_comm, Nat.div_add_mod]
      omega
section
variable {W0 W W' W1 : World} {B B2 b g gp r w h D : Nat} {u : Int} {Q Q' Qn : Nat → Nat → Nat → Nd} {L bs : List Int} {tt tt' : Nat}
theorem Un.size (H : Un W g w h D Q) (hw : 1 ≤ w) (hh : 1 ≤ h) : ∀ cs, Blk W g 105 cs → Go.Proofs.Ytaddendclipkkaa.bs w h D * 3 ≤ cs.size ∧ ∀ z ∈ cs.toList.take (Go.Proofs.Ytaddendclipkkaa.bs w h D * 3), z.oneCell' = true := fun cs hc => by
  obtain ⟨ds, h1, h2⟩ := H
  have e : cs = ds := by
    unfold Blk at hc h1
    rw [hc] at h1
    simpa using h1
  subst e
  have key : ∀ i, i < Go.Proofs.Ytaddendclipkkaa.bs w h D → ∃ n : Nd, cs[i * 3]? = some (.int .i64 n.v) ∧ cs[i * 3 + 1]? = some (.int .i64 n.l) ∧ cs[i * 3 + 2]? = some (.bool n.b) := fun i hi => by
    obtain ⟨k, x, y, hk, hx, hy, rfl⟩ := ix_all hw hh D i hi
    exact ⟨_, h2 k x y hk hx hy⟩
  refine ⟨?_, fun z hz => ?_⟩
  · by_cases h0 : Go.Proofs.Ytaddendclipkkaa.bs w h D = 0
    · rw [h0]; exact Nat.zero_le _
    · obtain ⟨n, _, _, h3⟩ := key (Go.Proofs.Ytaddendclipkkaa.bs w h D - 1) (by omega)
      have := (Array.getElem?_eq_some_iff.1 h3).1
      omega
  · obtain ⟨i, hi⟩ := List.getElem?_of_mem hz
    have hlt : i < Go.Proofs.Ytaddendclipkkaa.bs w h D * 3 := by
      have := (List.getElem?_eq_some_iff.1 hi).1
      simp at this; omega
    rw [List.getElem?_take_of_lt hlt, Array.getElem?_toList] at hi
    obtain ⟨n, a, b', c⟩ := key (i / 3) (by omega)
    rcases (show i = i / 3 * 3 ∨ i = i / 3 * 3 + 1 ∨ i = i / 3 * 3 + 2 by omega) with e | e | e <;> rw [e] at hi
    · rw [a] at hi; obtain rfl := Option.some.inj hi; rfl
    · rw [b'] at hi; obtain rfl := Option.some.inj hi; rfl
    · rw [c] at hi; obtain rfl := Option.some.inj hi; rfl
theorem Un.keep (H : Un W g w h D Q) (hk : W1.heap[g]? = W.heap[g]?) : Un W1 g w h D Q := by
  obtain ⟨cs, h1, h2⟩ := H
  exact ⟨cs, hk.trans h1, h2⟩
theorem Un.lt (H : Un W g w h D Q) : g < W.heap.size := H.elim fun _ z => z.1.lt
theorem Un.free (H : Un W g w h D Q) (o : Nat) : W.frozen? ⟨g, o, none⟩ = false := H.elim fun _ z => z.1.free o
theorem Un.node (H : Un W g w h D Q) {k x y : Nat} (hk : k < D) (hx : x < dm w k) (hy : y < dm h k) {i : Nat} (hi : i = ix w h k x y) : W.cell? ⟨g, i * 3, none⟩ = some (.int .i64 (Q k x y).v) ∧ W.cell? ⟨g, i * 3 + 1, none⟩ = some (.int .i64 (Q k x y).l) ∧ W.cell? ⟨g, i * 3 + 2, none⟩ = some (.bool (Q k x y).b) := by
  subst hi
  obtain ⟨cs, hn, hn2⟩ := H
  obtain ⟨a, c, d⟩ := hn2 k x y hk hx hy
  exact ⟨by rw [hn.cell]; exact a, by rw [hn.cell]; exact c, by rw [hn.cell]; exact d⟩
theorem Un.put (hw : 1 ≤ w) (hh : 1 ≤ h) (H : Un W g w h D Q) {k X Y : Nat} (hk : k < D) (hX : X < dm w k) (hY : Y < dm h k) (c : Nat) (hc : c < 3) (n : Nd) (hn : ∀ c', c' < 3 → c' ≠ c → comp n c' = comp (Q k X Y) c') {o : Nat} (ho : o = ix w h k X Y * 3 + c) :
    Un (W.setCell ⟨g, o, none⟩ (comp n c)) g w h D (upN Q k X Y n) := by
  subst ho
  obtain ⟨ds, h1, h2⟩ := H
  refine ⟨_, h1.set _ _, fun i x y hi hx hy => ?_⟩
  obtain ⟨a0, a1, a2⟩ := h2 i x y hi hx hy
  obtain ⟨b0, b1, b2⟩ := h2 k X Y hk hX hY
  unfold upN
  have hin : (ix w h k X Y * 3 + c) < ds.size := by
    have := (Array.getElem?_eq_some_iff.1 b2).1
    omega
  by_cases hxy : i = k ∧ x = X ∧ y = Y
  · obtain ⟨rfl, rfl, rfl⟩ := hxy
    rw [if_pos ⟨rfl, rfl, rfl⟩]
    have key : ∀ c', c' < 3 → (ds.setIfInBounds (ix w h i x y * 3 + c) (comp n c))[ix w h i x y * 3 + c']? = some (comp n c') := by
      intro c' hc'
      rw [Array.getElem?_setIfInBounds]
      by_cases he : c' = c
      · subst he
        rw [if_pos rfl, if_pos hin]
      · rw [if_neg (by omega), hn c' hc' he]
        match c', hc' with
        | 0, _ => exact a0
        | 1, _ => exact a1
        | 2, _ => exact a2
    exact ⟨key 0 (by omega), key 1 (by omega), key 2 (by omega)⟩
  · rw [if_neg hxy]
    have hne : ix w h i x y ≠ ix w h k X Y := fun e => hxy (ix_inj hw hh hx hy hX hY e)
    generalize ix w h i x y = p at *
    generalize ix w h k X Y = q at *
    refine ⟨?_, ?_, ?_⟩
    · rw [Array.getElem?_setIfInBounds, if_neg (by omega)]; exact a0
    · rw [Array.getElem?_setIfInBounds, if_neg (by omega)]; exact a1
    · rw [Array.getElem?_setIfInBounds, if_neg (by omega)]; exact a2
theorem Un.put3 (hw : 1 ≤ w) (hh : 1 ≤ h) (H : Un W g w h D Q) {k X Y : Nat} (hk : k < D) (hX : X < dm w k) (hY : Y < dm h k) (n : Nd) {o : Nat} (ho : o = ix w h k X Y * 3) :
    Un (((W.setCell ⟨g, o, none⟩ (.int .i64 n.v)).setCell ⟨g, o + 1, none⟩ (.int .i64 n.l)).setCell ⟨g, o + 2, none⟩ (.bool n.b)) g w h D (upN Q k X Y n) := by
  have q0 := Un.put hw hh H hk hX hY 0 (by omega) ⟨n.v, (Q k X Y).l, (Q k X Y).b⟩ (fun c hc hn => by
    match c, hc with
    | 0, _ => exact absurd rfl hn
    | 1, _ => rfl
    | 2, _ => rfl) (o := o) (by omega)
  have e1 : upN Q k X Y ⟨n.v, (Q k X Y).l, (Q k X Y).b⟩ k X Y = ⟨n.v, (Q k X Y).l, (Q k X Y).b⟩ := by unfold upN; rw [if_pos ⟨rfl, rfl, rfl⟩]
  have q1 := Un.put hw hh q0 hk hX hY 1 (by omega) ⟨n.v, n.l, (Q k X Y).b⟩ (fun c hc hn => by
    rw [e1]
    match c, hc with
    | 0, _ => rfl
    | 1, _ => exact absurd rfl hn
    | 2, _ => rfl) (o := o + 1) (by omega)
  have e2 : upN (upN Q k X Y ⟨n.v, (Q k X Y).l, (Q k X Y).b⟩) k X Y ⟨n.v, n.l, (Q k X Y).b⟩ k X Y = ⟨n.v, n.l, (Q k X Y).b⟩ := by unfold upN; rw [if_pos ⟨rfl, rfl, rfl⟩]
  have q2 := Un.put hw hh q1 hk hX hY 2 (by omega) n (fun c hc hn => by
    rw [e2]
    match c, hc with
    | 0, _ => rfl
    | 1, _ => rfl
    | 2, _ => exact absurd rfl hn) (o := o + 2) (by omega)
  have e3 : upN (upN (upN Q k X Y ⟨n.v, (Q k X Y).l, (Q k X Y).b⟩) k X Y ⟨n.v, n.l, (Q k X Y).b⟩) k X Y n = upN Q k X Y n := by
    funext i a b
    unfold upN
    by_cases h : i = k ∧ a = X ∧ b = Y
    · rw [if_pos h, if_pos h]
    · rw [if_neg h, if_neg h, if_neg h, if_neg h]
  rw [e3] at q2
  exact q2
/-- The copy takes the place of the nodes. -/
theorem Ur.swap {g1 m1 : Nat} (H : Ur W B b g w h D u Q) (hu : u ≠ 1) (hn : Un W g1 w h D Qn) (hg : B ≤ g1) (hv : ∀ x y, 0 ≤ (Qn 0 x y).v ∧ (Qn 0 x y).v ≤ 65535) (hq : ∀ k x y, 0 ≤ (Qn k x y).l ∧ (Qn k x y).l ≤ 65536) :
    Ur ((W.setCell ⟨b, 3, none⟩ (.slice (some ⟨g1, 0, none⟩) (Go.Proofs.Ytaddendclipkkaa.bs w h D) m1)).setCell ⟨b, 5, none⟩ (.bool true)) B b g1 w h D 2 Qn := by
  obtain ⟨m, ho⟩ := H.obj
  obtain ⟨cs, h1, h2⟩ := hn
  have hne := h1.ne ho (by decide)
  refine ⟨H.w1, H.h1, H.sz, H.ws, H.hs, H.d, by omega, H.geb, hg, ⟨m1, ?_⟩, ⟨cs, (h1.far (p := ⟨b, 3, none⟩) hne _).far (p := ⟨b, 5, none⟩) hne _, h2⟩, hv, hq⟩
  have e := (ho.set 3 (.slice (some ⟨g1, 0, none⟩) (Go.Proofs.Ytaddendclipkkaa.bs w h D) m1)).set 5 (.bool true)
  rw [decide_eq_false hu] at e
  exact e
end
section
variable {W0 W W1 : World} {B B2 b g r gp g1 gn w h D wd rh : Nat} {u : Int} {Q Q' Qn Qn' : Nat → Nat → Nat → Nd} {L bs : List Int} {tt tt' : Nat}
theorem sd_typed (h : Sd W B2 r bs tt) (k : Nat) (hk : Fp W r k) : ∃ ty cs, (ty = 84 ∨ ty = 5) ∧ Blk W k ty cs := by
  obtain ⟨sv, h⟩ := h
  rcases hk with rfl | ⟨z, hv, hk⟩
  · exact ⟨_, _, .inl rfl, h.blk⟩
  · rw [show W.cell? ⟨r, 1, none⟩ = some sv from h.blk.cell 1] at hv
    obtain rfl := Option.some.inj hv
    rcases h.own.2 with ⟨rfl, _⟩ | ⟨g', cap, cur, rfl, _, hh, _⟩
    · simp [Value.ownBlock] at hk
    · have : g' = k := by simpa [Value.ownBlock] using hk
      subst this
      exact ⟨_, _, .inr rfl, hh⟩
theorem not_sp (h : Sd W B2 r bs tt) {k : Nat} {ty : TypeId} {cs : Array Value} (hb : Blk W k ty cs) (ht : ty ≠ 84 ∧ ty ≠ 5) : ¬ Fp W r k := fun hk => by
  obtain ⟨ty', cs', h1, h2⟩ := sd_typed h k hk
  rcases h1 with rfl | rfl
  · exact hb.ne h2 ht.1 rfl
  · exact hb.ne h2 ht.2 rfl
theorem su_ne (h : Sd W B2 r bs tt) (H : Ur W B b g wd rh D u Q) (k : Nat) (hk : Fp W r k) : ¬ Uf b g k := fun ht => by
  rcases ht with rfl | rfl
  · obtain ⟨m, ho⟩ := H.obj
    exact not_sp h ho (by decide) hk
  · obtain ⟨cs, hn, _⟩ := H.nds
    exact not_sp h hn (by decide) hk
theorem sd_keep (h : Sd W B2 r bs tt) (hk : ∀ k, Fp W r k → W1.heap[k]? = W.heap[k]?) : Sd W1 B2 r bs tt := Sp.keep h hk
theorem sd_lt (h : Sd W B2 r bs tt) : r < W.heap.size := Sp.lt h
theorem sd_foot (h : Sd W B2 r bs tt) (k : Nat) (hk : Fp W r k) : B2 ≤ k ∧ k < W.heap.size := Sp.foot h k hk
/-- While a leaf is decoded: the tree as it was, its copied nodes, the reader. -/
structure Ed (W0 : World) (B B2 b g r gp g1 : Nat) (L : List Int) (w h D : Nat) (u : Int) (Q Qn : Nat → Nat → Nat → Nd) (bs : List Int) (tt : Nat) (W : World) : Prop where
  ur : Ur W B b g w h D u Q
  un : Un W g1 w h D Qn
  sd : Sd W B2 r bs tt
  le : tt ≤ 8 * bs.length
  hp : HoldsI W (some ⟨gp, 0, none⟩) L
  np : ¬ Fp W r gp
  gl : gp < W.heap.size
  kf : Kf (fun k => Fp W0 r k) W0 W
  ft : ∀ k, Fp W r k → Fp W0 r k ∨ W0.heap.size ≤ k
  pnew : W0.heap.size ≤ gp
  nnew : W0.heap.size ≤ g1
  ne : gp ≠ g1
theorem Ed.step (H : Ed W0 B B2 b g r gp g1 L w h D u Q Qn bs tt W) (hb : Below W.heap.size W W1) : Ed W0 B B2 b g r gp g1 L w h D u Q Qn bs tt W1 :=
  ⟨H.ur.below hb, H.un.keep (hb.block _ H.un.lt), sd_keep H.sd (fun k hf => hb.block k (sd_foot H.sd k hf).2), H.le, holdsI_keep H.hp (hb.block _ H.gl), fun hf => H.np (fpB hb (sd_lt H.sd) hf), Nat.lt_of_lt_of_le H.gl hb.size, H.kf.trans (Kf.of_below _ hb), fun k hk => H.ft k (fpB hb (sd_lt H.sd) hk), H.pnew, H.nnew, H.ne⟩
theorem Ed.get (H : Ed W0 B B2 b g r gp g1 L w h D u Q Qn bs tt W) (hS : Sd W1 B2 r bs tt') (hle : tt' ≤ 8 * bs.length) (hk : Kp r W W1) : Ed W0 B B2 b g r gp g1 L w h D u Q Qn bs tt' W1 := by
  refine ⟨H.ur.keep fun k hf => hk.block k (H.ur.foot k hf).2 (fun hn => su_ne H.sd H.ur k hn hf), H.un.keep (hk.block _ H.un.lt (H.un.elim fun cs z => not_sp H.sd z.1 (by decide))), hS, hle, holdsI_keep H.hp (hk.block _ H.gl H.np), fun hf => ?_, Nat.lt_of_lt_of_le H.gl hk.size,
    ⟨hk.os.trans H.kf.os, hk.tape.trans H.kf.tape, hk.output.trans H.kf.output, Nat.le_trans H.kf.size hk.size, fun k hlt hn => (hk.block k (Nat.lt_of_lt_of_le hlt H.kf.size) fun hf => ?_).trans (H.kf.block k hlt hn)⟩, fun k hf => ?_, H.pnew, H.nnew, H.ne⟩
  · rcases hk.foot _ hf with h1 | h1
    · exact H.np h1
    · have := H.gl; omega
  · rcases H.ft k hf with h1 | h1
    · exact hn h1
    · omega
  · rcases hk.foot k hf with h1 | h1
    · exact H.ft k h1
    · exact .inr (Nat.le_trans H.kf.size h1)
/-- Another state of a new block of nodes. -/
theorem Ed.chg (H : Ed W0 B B2 b g r gp g1 L w h D u Q Qn bs tt W) {q : Nat} {cs : Array Value} (hq : Blk W q 105 cs) (hqn : W0.heap.size ≤ q) (hqg : q ≠ g) (hqb : q ≠ b) (hqp : gp ≠ q) (hk : Kf (fun k => k = q) W W1) (hU : Un W1 g1 w h D Qn') : Ed W0 B B2 b g r gp g1 L w h D u Q Qn' bs tt W1 := by
  have e : ∀ k, k < W.heap.size → k ≠ q → W1.heap[k]? = W.heap[k]? := fun k hlt hk2 => hk.block k hlt hk2
  have ev : ∀ k, Fp W r k → W1.heap[k]? = W.heap[k]? := fun k hf => e k (sd_foot H.sd k hf).2 fun hk2 => not_sp H.sd hq (by decide) (hk2 ▸ hf)
  refine ⟨H.ur.keep fun k hf => e k (H.ur.foot k hf).2 fun hk2 => ?_, hU, sd_keep H.sd ev, H.le, holdsI_keep H.hp (e _ H.gl hqp), fun hf => H.np (fpS (ev r (.inl rfl)) hf), Nat.lt_of_lt_of_le H.gl hk.size,
    ⟨hk.os.trans H.kf.os, hk.tape.trans H.kf.tape, hk.output.trans H.kf.output, Nat.le_trans H.kf.size hk.size, fun k hlt hn => (e k (Nat.lt_of_lt_of_le hlt H.kf.size) fun hk2 => by omega).trans (H.kf.block k hlt hn)⟩, fun k hf => H.ft k (fpS (ev r (.inl rfl)) hf), H.pnew, H.nnew, H.ne⟩
  rcases hf with h1 | h1
  · exact hqb (hk2.symm.trans h1)
  · exact hqg (hk2.symm.trans h1)
/-- What the reference's Decode does. -/
structure Du (W : World) (B B2 b g r : Nat) (w h D : Nat) (bs : List Int) (tt' : Nat) (u' : Int) (Q' : Nat → Nat → Nat → Nd) (W' : World) : Prop where
  ur : ∃ g', (g' = g ∨ W.heap.size ≤ g') ∧ Ur W' B b g' w h D u' Q'
  sd : Sd W' B2 r bs tt'
  le : tt' ≤ 8 * bs.length
  kf : Kf (fun k => Fp W r k ∨ k = b) W W'
  ft : ∀ k, Fp W' r k → Fp W r k ∨ W.heap.size ≤ k
/-- The inner loop: what is left to do. -/
structure Ej (T : Int × Nat × Nd) (t : Int) (W0 : World) (B B2 b g r gp g1 : Nat) (L : List Int) (w h D : Nat) (u : Int) (Q Qn : Nat → Nat → Nat → Nd) (bs : List Int) (gn : Nat) (f : Nat) (tt : Nat) (n : Nd) (W : World) : Prop where
  run : nrun (decG bs) t f tt n = T
  fuel : n.b = true ∨ (t - n.l).toNat < f
  lo : 0 ≤ n.l ∧ n.l ≤ 65536
  ed : Ed W0 B B2 b g r gp g1 L w h D u Q Qn bs tt W
  box : Blk W gn 105 #[.int .i64 n.v, .int .i64 n.l, .bool n.b]
  gng : gn ≠ g
  gnb : gn ≠ b
  gn1 : gn ≠ g1
  gnp : gp ≠ gn
  gnew : W0.heap.size ≤ gn
end
end Go.Proofs.Ytaddendclipkkaa
