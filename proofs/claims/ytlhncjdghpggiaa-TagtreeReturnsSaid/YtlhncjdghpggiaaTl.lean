/-
  Layer 10: two trees, the values, the accepted calls.
-/
import Derived.Test.YtlhncjdghpggiaaTk
import Derived.Laws.AppendOwnNone
set_option maxRecDepth 100000
namespace Go.Proofs.Ytlhncjdghpggiaa
open Go.RowKit

theorem infoI1 : (Try.prog.info? 3).map (fun i => (i.zero, i.size, i.bytes)) = some (some (.int .i64 0), 1, 8) := by kernel_rfl
theorem infoOT : (Try.prog.info? 66).map (fun i => (i.zero, i.size, i.bytes)) = some (some (.agg #[.int .i64 0, .int .i64 0, .int .i64 0, .int .i64 0]), 4, 32) := by kernel_rfl
theorem mk_ints (c : Nat) (hc : c ≤ 65536) (W : World) : (Instr.makeSlice 79 (.int .i64 (c : Int)) (.int .i64 (c : Int))).run Try.prog W = .ok (.slice (some ⟨W.heap.size, 0, none⟩) c c) (W.alloc (.cells (madeCells #[.int .i64 0] c) 3)) := by
  obtain ⟨i0, hi, hz0, hz1, hz2⟩ := info_parts infoI1
  have hr := run_make (P := Try.prog) W 79 3 i0 _ Try.underlying79 hi hz0 .i64 .i64 c c (by omega) (Int.le_refl _) (by rw [hz2]; omega) (by omega)
  rw [hz1, Int.toNat_natCast, Nat.mul_one] at hr
  exact hr
/-- The values of the leaves. -/
def Vs (W : World) (g w h : Nat) (f : Nat → Nat → Int) : Prop := ∃ cs, Blk W g 3 cs ∧ ∀ x y, x < w → y < h → cs[y * w + x]? = some (.int .i64 (f x y))
section
variable {W W' : World} {g w h : Nat} {f : Nat → Nat → Int}
theorem Vs.keep (H : Vs W g w h f) (hk : W'.heap[g]? = W.heap[g]?) : Vs W' g w h f := by
  obtain ⟨cs, h1, h2⟩ := H
  exact ⟨cs, hk.trans h1, h2⟩
theorem Vs.lt (H : Vs W g w h f) : g < W.heap.size := H.elim fun _ H => H.1.lt
theorem Vs.at (H : Vs W g w h f) {x y : Nat} (hx : x < w) (hy : y < h) : W.cell? ⟨g, y * w + x, none⟩ = some (.int .i64 (f x y)) := by
  obtain ⟨cs, h1, h2⟩ := H
  rw [h1.cell]; exact h2 x y hx hy
theorem Vs.free (H : Vs W g w h f) (i : Nat) : W.frozen? ⟨g, i, none⟩ = false := H.elim fun _ H => H.1.free i
theorem Vs.put (H : Vs W g w h f) {x y : Nat} (hx : x < w) (hy : y < h) (v : Int) : Vs (W.setCell ⟨g, y * w + x, none⟩ (.int .i64 v)) g w h (upF f x y v) := by
  obtain ⟨cs, h1, h2⟩ := H
  have hsz := (Array.getElem?_eq_some_iff.1 (h2 x y hx hy)).1
  refine ⟨_, h1.set _ _, fun X Y hX hY => ?_⟩
  rw [Array.getElem?_setIfInBounds]
  unfold upF
  by_cases hc : X = x ∧ Y = y
  · obtain ⟨rfl, rfl⟩ := hc
    rw [if_pos rfl, if_pos hsz, if_pos ⟨rfl, rfl⟩]
  · rw [if_neg (fun e => hc (by have := grid_inj hx hX e; exact ⟨this.1.symm, this.2.symm⟩)), if_neg hc]
    exact h2 X Y hX hY
theorem vs_made (W : World) (w h : Nat) : Vs (W.alloc (.cells (madeCells #[.int .i64 0] (w * h)) 3)) W.heap.size w h xf0 :=
  ⟨_, Blk.new W _ _, fun x y hx hy => by
    have := grid_lt hx hy
    simp [madeCells, this, Nat.mod_one, xf0]⟩
end
/-- The cells of a list of calls. -/
def opCT (G : List OpT) : List Value := (G.map fun q => [Value.int .i64 q.k, .int .i64 q.x, .int .i64 q.y, .int .i64 q.v]).flatten
theorem opCT_len (G : List OpT) : (opCT G).length = G.length * 4 := by
  induction G with
  | nil => rfl
  | cons q G ih => simp [opCT] at ih ⊢; omega
theorem opCT_snoc (G : List OpT) (q : OpT) : opCT (G ++ [q]) = opCT G ++ [Value.int .i64 q.k, .int .i64 q.x, .int .i64 q.y, .int .i64 q.v] := by simp [opCT]
theorem opCT_at : ∀ (G : List OpT) (k : Nat) (hk : k < G.length), (opCT G)[k * 4]? = some (.int .i64 G[k].k) ∧ (opCT G)[k * 4 + 1]? = some (.int .i64 G[k].x) ∧ (opCT G)[k * 4 + 2]? = some (.int .i64 G[k].y) ∧ (opCT G)[k * 4 + 3]? = some (.int .i64 G[k].v)
  | q :: G, 0, _ => by simp [opCT]
  | q :: G, k + 1, hk => by
    have ih := opCT_at G k (by simpa using hk)
    have e : opCT (q :: G) = Value.int .i64 q.k :: .int .i64 q.x :: .int .i64 q.y :: .int .i64 q.v :: opCT G := by simp [opCT]
    rw [e, show (k + 1) * 4 = k * 4 + 4 by omega]
    simpa using ih
theorem holdsT_own {w : World} {base : Nat} {v : Value} {n : Nat} {G : List OpT} (h : w.ownsRow base 66 4 v n (opCT G)) : n = G.length ∧ ∃ s m, v = .slice s G.length m ∧ HoldsT w s G := by
  obtain ⟨h1, h2⟩ := h
  rw [opCT_len] at h1
  have hn : n = G.length := by omega
  subst hn
  refine ⟨rfl, ?_⟩
  rcases h2 with ⟨rfl, h0⟩ | ⟨g, cap, cur, rfl, hb, hg, hc, hm, hs, ht⟩
  · obtain rfl := List.length_eq_zero_iff.1 h0
    exact ⟨none, 0, rfl, .inl rfl⟩
  · refine ⟨_, cap, rfl, .inr ⟨g, 0, rfl, fun k hk => ?_⟩⟩
    have key : ∀ i, i < G.length * 4 → w.cell? ⟨g, i, none⟩ = (opCT G)[i]? := fun i hi => by
      rw [← ht, List.getElem?_take_of_lt (by omega), Array.getElem?_toList]
      simp [World.cell?, hg]
    obtain ⟨a0, a1, a2, a3⟩ := opCT_at G k hk
    rw [Nat.zero_add]
    exact ⟨(key _ (by omega)).trans a0, (key _ (by omega)).trans a1, (key _ (by omega)).trans a2, (key _ (by omega)).trans a3⟩
theorem own_keepT {w w1 : World} {base n : Nat} {e : TypeId} {size : Nat} {v : Value} {xs : List Value} (h : w.ownsRow base e size v n xs) (hk : ∀ g cs, v.ownBlock = some g → Blk w g e cs → w1.heap[g]? = w.heap[g]?) : w1.ownsRow base e size v n xs := by
  obtain ⟨h1, h2⟩ := h
  refine ⟨h1, ?_⟩
  rcases h2 with h2 | ⟨g, cap, cur, rfl, h3, h4, h5⟩
  · exact .inl h2
  · exact .inr ⟨g, cap, cur, rfl, h3, (hk g cur rfl h4).trans h4, h5⟩
theorem own_blkT {w : World} {base n : Nat} {e : TypeId} {size : Nat} {v : Value} {xs : List Value} (h : w.ownsRow base e size v n xs) {g : Nat} (hg : v.ownBlock = some g) : ∃ cs, Blk w g e cs := by
  rcases h.2 with ⟨rfl, _⟩ | ⟨g', cap, cur, rfl, _, hh, _⟩
  · simp [Value.ownBlock] at hg
  · obtain rfl : g' = g := by simpa [Value.ownBlock] using hg
    exact ⟨cur, hh⟩
theorem one_opT (W : World) (x y z t : Value) (T : TypeId) : ∀ j u, ([x, y, z, t] : List Value)[j]? = some u → (W.alloc (.cells #[x, y, z, t] T)).cell? ((⟨W.heap.size, 0, none⟩ : Addr).add j) = some u := by
  intro j u hj
  match j, hj with
  | 0, hj => simp at hj; subst hj; simp [Addr.add]
  | 1, hj => simp at hj; subst hj; simp [Addr.add]
  | 2, hj => simp at hj; subst hj; simp [Addr.add]
  | 3, hj => simp at hj; subst hj; simp [Addr.add]
theorem oneOpT (x y z t : Int) : ∀ u ∈ ([.int .i64 x, .int .i64 y, .int .i64 z, .int .i64 t] : List Value), u.oneCell' = true := by
  intro u hu; simp at hu; rcases hu with rfl | rfl | rfl | rfl <;> rfl
set_option maxHeartbeats 4000000 in
theorem inside_c (o : OpT) (w h : Int) (h1 : 0 ≤ o.x) (h2 : o.x < w) (h3 : 0 ≤ o.y) (h4 : o.y < h) (W : World) : Calls Try.prog 51 #[.agg #[.int .i64 o.k, .int .i64 o.x, .int .i64 o.y, .int .i64 o.v], .int .i64 w, .int .i64 h] W fun e w' => e = .returned (.bool true) ∧ Below W.heap.size W w' := by
  obtain ⟨ok, ox, oy, ov⟩ := o
  dsimp only at *
  have hA := Lib.hid (below_alloc (Below.refl _ W) (.cells #[.int .i64 ok, .int .i64 ox, .int .i64 oy, .int .i64 ov] 66))
  have h4' : decide (oy < h) = true := decide_eq_true h4
  go_enter Try.func51, Try.ntmps51
  go_wp2_with fail
  go_ret
  exact ⟨rfl, hA.out⟩
/-- Two trees and the values of the leaves, all made since a world. -/
structure Rt (W0 : World) (A L : Nat) (nd : Nat → Nat) (A' L' : Nat) (nd' : Nat → Nat) (w h D : Nat) (u : Int) (Q : Nat → Nat → Nat → Nd) (gV : Nat) (f : Nat → Nat → Int) (W : World) : Prop where
  t : Tr W W0.heap.size A L nd w h D u Q
  r : Tr W W0.heap.size A' L' nd' w h D 0 (mkQ w h xf0 xl0 xb0)
  dj : ∀ k, Tf A L nd D k → ¬ Tf A' L' nd' D k
  vs : Vs W gV w h f
  ge : W0.heap.size ≤ gV
  below : Below W0.heap.size W0 W
section
variable {W0 W W1 W2 : World} {A L A' L' a r w h D gV : Nat} {nd nd' : Nat → Nat} {u u' : Int} {Q Q' R R' : Nat → Nat → Nat → Nd} {f : Nat → Nat → Int} {s s' bs : List Int} {tt tt' : Nat} {gv gv' : Value} {G : List OpT} {o : OpT} {g : Nat}
theorem vs_ne (H : Vs W gV w h f) (hT : Tr W W0.heap.size A L nd w h D u Q) : ¬ Tf A L nd D gV := H.elim fun _ H => not_tfT hT H.1 (by decide)
theorem Rt.step (H : Rt W0 A L nd A' L' nd' w h D u Q gV f W) (hb : Below W.heap.size W W1) : Rt W0 A L nd A' L' nd' w h D u Q gV f W1 :=
  ⟨H.t.below hb, H.r.below hb, H.dj, H.vs.keep (hb.block _ H.vs.lt), H.ge, below_call H.below hb⟩
theorem Rt.set (H : Rt W0 A L nd A' L' nd' w h D u Q gV f W) (hT : Tr W1 W0.heap.size A L nd w h D u' Q') (hk : Kf (Tf A L nd D) W W1) : Rt W0 A L nd A' L' nd' w h D u' Q' gV f W1 :=
  ⟨hT, H.r.keep fun k hf => hk.block k (H.r.foot k hf).2 (fun hn => H.dj k hn hf), H.dj, H.vs.keep (hk.block _ H.vs.lt (vs_ne H.vs H.t)), H.ge, H.below.trans (hk.below (fun k hk => (H.t.foot k hk).1) H.below.size)⟩
theorem Rt.put (H : Rt W0 A L nd A' L' nd' w h D u Q gV f W) {x y : Nat} (hx : x < w) (hy : y < h) (v : Int) : Rt W0 A L nd A' L' nd' w h D u Q gV (upF f x y v) (W.setCell ⟨gV, y * w + x, none⟩ (.int .i64 v)) := by
  have e : ∀ k, k ≠ gV → (W.setCell ⟨gV, y * w + x, none⟩ (.int .i64 v)).heap[k]? = W.heap[k]? := fun k hk => Below.heap_setCell _ _ _ _ hk
  exact ⟨H.t.keep fun k hk => e k fun c => vs_ne H.vs H.t (c ▸ hk), H.r.keep fun k hk => e k fun c => vs_ne H.vs H.r (c ▸ hk), H.dj, H.vs.put hx hy v, H.ge, H.below.setCell H.ge _⟩
/-- The writer and the accepted calls besides. -/
structure Rw (W0 : World) (A L : Nat) (nd : Nat → Nat) (A' L' : Nat) (nd' : Nat → Nat) (w h D : Nat) (u : Int) (Q : Nat → Nat → Nat → Nd) (gV : Nat) (f : Nat → Nat → Int) (a : Nat) (s : List Int) (gv : Value) (G : List OpT) (W : World) : Prop where
  rt : Rt W0 A L nd A' L' nd' w h D u Q gV f W
  wr : Wr W W0.heap.size a s
  bits : Bi.bits s
  own : W.ownsRow W0.heap.size 66 4 gv G.length (opCT G)
theorem Rw.step (H : Rw W0 A L nd A' L' nd' w h D u Q gV f a s gv G W) (hb : Below W.heap.size W W1) : Rw W0 A L nd A' L' nd' w h D u Q gV f a s gv G W1 :=
  ⟨H.rt.step hb, H.wr.below hb, H.bits, own_keepT H.own fun g _ _ hB => hb.block g hB.lt⟩
theorem vs_fp (H : Vs W gV w h f) (hW : Wr W W0.heap.size a s) : ¬ Fp W a gV := H.elim fun _ H => not_fp hW H.1 (by decide)
theorem Rw.enc (H : Rw W0 A L nd A' L' nd' w h D u Q gV f a s gv G W) (hE : En W W0.heap.size W0.heap.size A L a nd w h D u Q s s' u' Q' W1) : Rw W0 A L nd A' L' nd' w h D u' Q' gV f a s' gv G W1 :=
  ⟨⟨hE.tr, H.rt.r.keep fun k hf => hE.kf.block k (H.rt.r.foot k hf).2 (fun hn => hn.elim (fun h1 => not_tf H.wr H.rt.r k h1 hf) (fun h1 => H.rt.dj k h1 hf)), H.rt.dj,
    H.rt.vs.keep (hE.kf.block _ H.rt.vs.lt (fun hn => hn.elim (vs_fp H.rt.vs H.wr) (vs_ne H.rt.vs H.rt.t))), H.rt.ge, H.rt.below.trans (hE.kf.below (fun k hk => hk.elim (fun hf => (H.wr.foot k hf).1) (fun ht => (H.rt.t.foot k ht).1)) H.rt.below.size)⟩,
    hE.wr, hE.bits, own_keepT H.own fun g _ _ hB => hE.kf.block g hB.lt (fun hn => hn.elim (not_fp H.wr hB (by decide)) (not_tfT H.rt.t hB (by decide)))⟩
theorem Rw.push {X : Obj} (H : Rw W0 A L nd A' L' nd' w h D u Q gV f a s gv G W) (hg : (W.alloc X).grownBy W2 gv.ownBlock) (hown : W2.ownsRow W0.heap.size 66 4 gv' (G.length + 1) (opCT G ++ [Value.int .i64 o.k, .int .i64 o.x, .int .i64 o.y, .int .i64 o.v])) :
    Rw W0 A L nd A' L' nd' w h D u Q gV f a s gv' (G ++ [o]) W2 := by
  have HA := H.step (W1 := W.alloc X) ((Below.refl _ _).alloc (Nat.le_refl _) _)
  have hB : ∀ k, some k = gv.ownBlock → ∃ cs, Blk (W.alloc X) k 66 cs := fun k e => own_blkT HA.own e.symm
  have kp : ∀ k, k < (W.alloc X).heap.size → (∀ cs, ¬ Blk (W.alloc X) k 66 cs) → W2.heap[k]? = (W.alloc X).heap[k]? := fun k hk hn => hg.block k hk fun e => (hB k e).elim fun cs hb => hn cs hb
  exact ⟨⟨HA.rt.t.keep fun k hk => kp k (HA.rt.t.foot k hk).2 fun cs hb => not_tfT HA.rt.t hb (by decide) hk, HA.rt.r.keep fun k hk => kp k (HA.rt.r.foot k hk).2 fun cs hb => not_tfT HA.rt.r hb (by decide) hk, H.rt.dj,
    HA.rt.vs.keep (kp _ HA.rt.vs.lt fun cs hb => HA.rt.vs.elim fun _ h1 => hb.ne h1.1 (by decide) rfl), H.rt.ge, HA.rt.below.grown hg HA.rt.below.size (fun k hk => (HA.own.lt k hk).1)⟩,
    HA.wr.keep fun k hk => kp k (HA.wr.foot k hk).2 fun cs hb => not_fp HA.wr hb (by decide) hk, H.bits, by rw [List.length_append, opCT_snoc]; exact hown⟩
theorem Rw.box (H : Rw W0 A L nd A' L' nd' w h D u Q gV f a s gv G W) (hE : En W W0.heap.size W0.heap.size A L a nd w h D u Q s s' u' Q' W1) (hB : Bo W g o) : Bo W1 g o := hB.enc H.rt.t H.wr hE
/-- The second tree, the reader, the values, the accepted calls. -/
structure R3 (W0 : World) (A' L' : Nat) (nd' : Nat → Nat) (w h D : Nat) (u : Int) (R : Nat → Nat → Nat → Nd) (gV : Nat) (f : Nat → Nat → Int) (r : Nat) (bs : List Int) (tt : Nat) (gv : Value) (G : List OpT) (W : World) : Prop where
  tr : Tr W W0.heap.size A' L' nd' w h D u R
  rd : Rd W W0.heap.size r bs tt
  vs : Vs W gV w h f
  ge : W0.heap.size ≤ gV
  own : W.ownsRow W0.heap.size 66 4 gv G.length (opCT G)
  below : Below W0.heap.size W0 W
theorem R3.start (H : Rw W0 A L nd A' L' nd' w h D u Q gV f a s gv G W) (hR : Rd W1 W.heap.size r bs tt) (hb : Below W.heap.size W W1) : R3 W0 A' L' nd' w h D 0 (mkQ w h xf0 xl0 xb0) gV f r bs tt gv G W1 := by
  have H1 := H.step hb
  exact ⟨H1.rt.r, hR.low H.rt.below.size, H1.rt.vs, H1.rt.ge, H1.own, H1.rt.below⟩
theorem R3.step (H : R3 W0 A' L' nd' w h D u R gV f r bs tt gv G W) (hb : Below W.heap.size W W1) : R3 W0 A' L' nd' w h D u R gV f r bs tt gv G W1 :=
  ⟨H.tr.below hb, H.rd.below hb, H.vs.keep (hb.block _ H.vs.lt), H.ge, own_keepT H.own fun g _ _ hB => hb.block g hB.lt, below_call H.below hb⟩
theorem R3.dec (H : R3 W0 A' L' nd' w h D u R gV f r bs tt gv G W) (hE : De W W0.heap.size W0.heap.size A' L' r nd' w h D bs tt' u' R' W1) : R3 W0 A' L' nd' w h D u' R' gV f r bs tt' gv G W1 :=
  ⟨hE.tr, hE.rd, H.vs.keep (hE.kf.block _ H.vs.lt (fun hn => hn.elim (fun h1 => H.vs.elim fun _ H2 => not_fpR H.rd H2.1 (by decide) h1) (vs_ne H.vs H.tr))), H.ge,
    own_keepT H.own fun g _ _ hB => hE.kf.block g hB.lt (fun hn => hn.elim (not_fpR H.rd hB (by decide)) (not_tfT H.tr hB (by decide))), H.below.trans (hE.kf.below (fun k hk => hk.elim (fun hf => (H.rd.foot k hf).1) (fun ht => (H.tr.foot k ht).1)) H.below.size)⟩
theorem R3.box (H : R3 W0 A' L' nd' w h D u R gV f r bs tt gv G W) (hE : De W W0.heap.size W0.heap.size A' L' r nd' w h D bs tt' u' R' W1) (hB : Bo W g o) : Bo W1 g o :=
  (hE.kf.block g (Blk.lt hB) (fun hn => hn.elim (not_fpR H.rd hB (by decide)) (not_tfT H.tr hB (by decide)))).trans hB
end
end Go.Proofs.Ytlhncjdghpggiaa
