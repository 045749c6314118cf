/-
  Layer 10: the reference's Encode.
-/
import Derived.Test.YtaddendclipkkaaUe
set_option maxRecDepth 100000
namespace Go.Proofs.Ytaddendclipkkaa
open Go.RowKit

/-- The nodes while a leaf is coded, the lower levels still to come. -/
def upR (Q : Nat → Nat → Nat → Nd) (x y : Nat) (R : Nat → Nd) (D j : Nat) : Nat → Nat → Nat → Nd := fun k X Y => if D ≤ k + j ∧ k < D ∧ X = x / 2 ^ k ∧ Y = y / 2 ^ k then R k else Q k X Y
theorem upR_zero (Q : Nat → Nat → Nat → Nd) (x y : Nat) (R : Nat → Nd) (D : Nat) : upR Q x y R D 0 = Q := by
  funext k X Y
  unfold upR
  rw [if_neg (fun e => by omega)]
theorem upR_end (Q : Nat → Nat → Nat → Nd) (x y : Nat) (R : Nat → Nd) (D : Nat) : upR Q x y R D D = upP Q x y R D := by
  funext k X Y
  unfold upR upP
  by_cases h : k < D ∧ X = x / 2 ^ k ∧ Y = y / 2 ^ k
  · rw [if_pos ⟨by omega, h⟩, if_pos h]
  · rw [if_neg (fun e => h e.2), if_neg h]
theorem upR_at (Q : Nat → Nat → Nat → Nd) (x y : Nat) (R : Nat → Nd) {D j k : Nat} (hk : k + j < D) (X Y : Nat) : upR Q x y R D j k X Y = Q k X Y := by
  unfold upR
  rw [if_neg (fun e => by omega)]
theorem upR_next (Q : Nat → Nat → Nat → Nd) (x y : Nat) (R R' : Nat → Nd) {D j : Nat} (hj : j < D) {n : Nd} (hR : ∀ k, R' k = if k = D - 1 - j then n else R k) :
    upN (upR Q x y R D j) (D - 1 - j) (x / 2 ^ (D - 1 - j)) (y / 2 ^ (D - 1 - j)) n = upR Q x y R' D (j + 1) := by
  funext k X Y
  unfold upN upR
  rw [hR]
  by_cases hk : k = D - 1 - j
  · subst hk
    by_cases hxy : X = x / 2 ^ (D - 1 - j) ∧ Y = y / 2 ^ (D - 1 - j)
    · rw [if_pos ⟨rfl, hxy⟩, if_pos ⟨by omega, by omega, hxy⟩, if_pos rfl]
    · rw [if_neg (fun e => hxy e.2), if_neg (fun e => hxy e.2.2), if_neg (fun e => hxy e.2.2)]
  · rw [if_neg (fun e => hk e.1), if_neg hk]
    by_cases hm : D ≤ k + j ∧ k < D ∧ X = x / 2 ^ k ∧ Y = y / 2 ^ k
    · rw [if_pos hm, if_pos ⟨by omega, hm.2⟩]
    · rw [if_neg hm, if_neg (fun e => hm ⟨by omega, e.2⟩)]
section
variable {W0 W W1 : World} {B B2 b g v gp w h D : Nat} {u : Int} {Q : Nat → Nat → Nat → Nd} {s s' L : List Int}
theorem vr_typed (h : Vr W B2 v s) (k : Nat) (hk : Fp W v k) : ∃ ty cs, (ty = 90 ∨ ty = 3) ∧ Blk W k ty cs := by
  obtain ⟨sv, h⟩ := h
  rcases hk with rfl | ⟨z, hv, hk⟩
  · exact ⟨_, _, .inl rfl, h.blk⟩
  · rw [show W.cell? ⟨v, 1, none⟩ = some sv from h.blk.cell 1] at hv
    obtain rfl := Option.some.inj hv
    rcases h.own.2 with ⟨rfl, _⟩ | ⟨g', cap, cur, rfl, _, hh, _⟩
    · simp [Value.ownBlock] at hk
    · have : g' = k := by simpa [Value.ownBlock] using hk
      subst this
      exact ⟨_, _, .inr rfl, hh⟩
theorem not_vp (h : Vr W B2 v s) {k : Nat} {ty : TypeId} {cs : Array Value} (hb : Blk W k ty cs) (ht : ty ≠ 90 ∧ ty ≠ 3) : ¬ Fp W v k := fun hk => by
  obtain ⟨ty', cs', h1, h2⟩ := vr_typed h k hk
  rcases h1 with rfl | rfl
  · exact hb.ne h2 ht.1 rfl
  · exact hb.ne h2 ht.2 rfl
theorem not_uf {wd rh : Nat} (h : Vr W B2 v s) (H : Ur W B b g wd rh D u Q) (k : Nat) (hk : Fp W v k) : ¬ Uf b g k := fun ht => by
  rcases ht with rfl | rfl
  · obtain ⟨m, ho⟩ := H.obj
    exact not_vp h ho (by decide) hk
  · obtain ⟨cs, hn, _⟩ := H.nds
    exact not_vp h hn (by decide) hk
end
/-- While a leaf is encoded. -/
structure Eb (W0 : World) (B B2 b g v gp : Nat) (L : List Int) (w h D : Nat) (Q : Nat → Nat → Nat → Nd) (s : List Int) (W : World) : Prop where
  ur : Ur W B b g w h D 1 Q
  vr : Vr W B2 v s
  hp : HoldsI W (some ⟨gp, 0, none⟩) L
  np : ¬ Fp W v gp
  gpne : gp ≠ g
  gl : gp < W.heap.size
  kf : Kf (fun k => Fp W0 v k ∨ Uf b g k) W0 W
  ft : ∀ k, Fp W v k → Fp W0 v k ∨ W0.heap.size ≤ k
  gnew : W0.heap.size ≤ gp
section
variable {W0 W W1 : World} {B B2 b g v gp w h D : Nat} {u : Int} {Q Q' : Nat → Nat → Nat → Nd} {s s' L : List Int}
theorem holdsI_keep {l : List Int} (h : HoldsI W (some ⟨gp, 0, none⟩) l) (hk : W1.heap[gp]? = W.heap[gp]?) : HoldsI W1 (some ⟨gp, 0, none⟩) l := by
  rcases h with rfl | ⟨b', off, e, hr⟩
  · exact .inl rfl
  · simp at e
    obtain ⟨rfl, rfl⟩ := e
    exact .inr ⟨_, _, rfl, fun k hk' => (World.cell?_of_block (a := ⟨gp, _, none⟩) hk).trans (hr k hk')⟩
theorem Eb.step (H : Eb W0 B B2 b g v gp L w h D Q s W) (hb : Below W.heap.size W W1) : Eb W0 B B2 b g v gp L w h D Q s W1 :=
  ⟨H.ur.below hb, H.vr.below hb, holdsI_keep H.hp (hb.block _ H.gl), fun hf => H.np (fpB hb H.vr.lt hf), H.gpne, Nat.lt_of_lt_of_le H.gl hb.size, H.kf.trans (Kf.of_below _ hb), fun k hk => H.ft k (fpB hb H.vr.lt hk), H.gnew⟩
theorem Eb.put (H : Eb W0 B B2 b g v gp L w h D Q s W) (hV : Vr W1 B2 v s') (hk : Kp v W W1) : Eb W0 B B2 b g v gp L w h D Q s' W1 := by
  refine ⟨H.ur.keep fun k hf => hk.block k (H.ur.foot k hf).2 (fun hn => not_uf H.vr H.ur k hn hf), hV, holdsI_keep H.hp (hk.block _ H.gl H.np), fun hf => ?_, H.gpne, Nat.lt_of_lt_of_le H.gl hk.size,
    ⟨hk.os.trans H.kf.os, hk.tape.trans H.kf.tape, hk.output.trans H.kf.output, Nat.le_trans H.kf.size hk.size, fun k hlt hn => (hk.block k (Nat.lt_of_lt_of_le hlt H.kf.size) fun hf => ?_).trans (H.kf.block k hlt hn)⟩, fun k hf => ?_, H.gnew⟩
  · rcases hk.foot _ hf with h1 | h1
    · exact H.np h1
    · have := H.gl; omega
  · rcases H.ft k hf with h1 | h1
    · exact hn (.inl h1)
    · omega
  · rcases hk.foot k hf with h1 | h1
    · exact H.ft k h1
    · exact .inr (Nat.le_trans H.kf.size h1)
/-- Another state of a block of nodes. -/
theorem Eb.chg (H : Eb W0 B B2 b g v gp L w h D Q s W) {q : Nat} {cs : Array Value} (hq : Blk W q 105 cs) (hqg : q = g ∨ W0.heap.size ≤ q) (hqp : gp ≠ q) (hk : Kf (fun k => k = q) W W1) (hU : Ur W1 B b g w h D 1 Q') : Eb W0 B B2 b g v gp L w h D Q' s W1 := by
  have e : ∀ k, k < W.heap.size → k ≠ q → W1.heap[k]? = W.heap[k]? := fun k hlt hk2 => hk.block k hlt hk2
  have ev : ∀ k, Fp W v k → W1.heap[k]? = W.heap[k]? := fun k hf => e k (H.vr.foot k hf).2 fun hk2 => not_vp H.vr hq (by decide) (hk2 ▸ hf)
  refine ⟨hU, H.vr.keep ev, holdsI_keep H.hp (e _ H.gl hqp), fun hf => H.np (fpS (ev v (.inl rfl)) hf), H.gpne, Nat.lt_of_lt_of_le H.gl hk.size,
    ⟨hk.os.trans H.kf.os, hk.tape.trans H.kf.tape, hk.output.trans H.kf.output, Nat.le_trans H.kf.size hk.size, fun k hlt hn => (e k (Nat.lt_of_lt_of_le hlt H.kf.size) fun hk2 => ?_).trans (H.kf.block k hlt hn)⟩, fun k hf => H.ft k (fpS (ev v (.inl rfl)) hf), H.gnew⟩
  rcases hqg with h1 | h1
  · exact hn (.inr (.inr (hk2.trans h1)))
  · omega
theorem Ur.farn (H : Ur W B b g w h D u Q) {q : Nat} (hg : q ≠ g) (hb : q ≠ b) (i : Nat) (x : Value) : Ur (W.setCell ⟨q, i, none⟩ x) B b g w h D u Q :=
  H.keep fun k hk => Below.heap_setCell _ _ _ _ fun e => by
    simp at e
    rcases hk with h1 | h1
    · exact hb (e.symm.trans h1)
    · exact hg (e.symm.trans h1)
end
/-- The nodes ahead of the first Encode. -/
def eQ (w h : Nat) (u : Int) (Q : Nat → Nat → Nat → Nd) : Nat → Nat → Nat → Nd := if u = 0 then minQ w h Q else Q
/-- What the reference's Encode does. -/
structure Eu (W : World) (B B2 b g v : Nat) (w h D : Nat) (s' : List Int) (u' : Int) (Q' : Nat → Nat → Nat → Nd) (W' : World) : Prop where
  ur : Ur W' B b g w h D u' Q'
  vr : Vr W' B2 v s'
  kf : Kf (fun k => Fp W v k ∨ Uf b g k) W W'
  ft : ∀ k, Fp W' v k → Fp W v k ∨ W.heap.size ≤ k
/-- The inner loop: what is left to do. -/
structure Ei (T : Int × List Int × Nd) (t : Int) (W0 : World) (B B2 b g v gp : Nat) (L : List Int) (w h D : Nat) (Q : Nat → Nat → Nat → Nd) (gn M : Nat) (f : Nat) (s : List Int) (n : Nd) (W : World) : Prop where
  run : nrun encG t f s n = T
  fuel : n.b = true ∨ (t - n.l).toNat < f
  lo : 0 ≤ n.l ∧ n.l ≤ 65536
  len : s.length + f ≤ M
  eb : Eb W0 B B2 b g v gp L w h D Q s W
  box : Blk W gn 105 #[.int .i64 n.v, .int .i64 n.l, .bool n.b]
  gne : gn ≠ g
  gnb : gn ≠ b
  gnp : gp ≠ gn
  gnew : W0.heap.size ≤ gn
end Go.Proofs.Ytaddendclipkkaa
