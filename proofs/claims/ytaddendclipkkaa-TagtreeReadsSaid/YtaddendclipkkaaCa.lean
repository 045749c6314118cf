/-
  Layer 10: the code's Clone.
-/
import Derived.Test.YtaddendclipkkaaTd
import Derived.Laws.AppendOwn
import Derived.Maps.AppendAt
import Derived.Lib.SliceRun
set_option maxRecDepth 100000
namespace Go.Proofs.Ytaddendclipkkaa
open Go.RowKit

set_option maxHeartbeats 4000000
theorem cloneNode_c (W : World) (g n m : Nat) (cs : Array Value) (hb : Blk W g 100 cs) (hn : n * 3 ≤ cs.size) (h1 : ∀ u ∈ cs.toList.take (n * 3), u.oneCell' = true) (hl : n ≤ 65536) (h0 : 1 ≤ n) :
    Calls Try.prog 71 #[.slice (some ⟨g, 0, none⟩) n m] W fun e w' => ∃ g' m' cs', e = .returned (.slice (some ⟨g', 0, none⟩) n m') ∧ Blk w' g' 100 cs' ∧ (∀ i, i < n * 3 → cs'[i]? = cs[i]?) ∧ W.heap.size ≤ g' ∧ Below W.heap.size W w' := by
  obtain ⟨i0, hi, hz0, hz1, hz2⟩ := info_parts infoN
  have hnil := fun (X : World) (a : Option Addr) (n c : Nat) => Lib.run_eql_slice_nil (P := Try.prog) X 92 100 a n c 0 0 Try.underlying92
  have hlen : (cs.toList.take (n * 3)).length = n * 3 := by simp; omega
  have HN := Lib.hid (fun (X : Obj) (j : Nat) (u : Value) (hj : (cs.toList.take (n * 3))[j]? = some u) => (by
    have hj3 : j < n * 3 := by
      have := (List.getElem?_eq_some_iff.1 hj).1
      omega
    rw [List.getElem?_take_of_lt hj3, Array.getElem?_toList] at hj
    rw [show ((⟨g, 0, none⟩ : Addr).add j) = ⟨g, j, none⟩ by simp [Addr.add]; intro h; exact h.symm, (hb.below (below_alloc (Below.refl _ W) X)).cell]
    exact hj : (W.alloc X).cell? ((⟨g, 0, none⟩ : Addr).add j) = some u))
  have HA := Lib.hid (fun X => (Below.refl W.heap.size W).alloc (Nat.le_refl _) X)
  have HC := Lib.hid (fun (i : Nat) (hi : i < n * 3) => (by rw [List.getElem?_take_of_lt hi, Array.getElem?_toList] : (cs.toList.take (n * 3))[i]? = cs[i]?))
  clear hb hn
  generalize cs.toList.take (n * 3) = L at *
  go_enter Try.func71, Try.ntmps71
  go_wp2_with (first | (at_builtin; refine wpList_append_own_at _ rfl _ _ 92 rfl W.heap.size 100 i0 _ 3 24 Try.underlying92 hi hz0 hz1 hz2 rfl (by decide) _ 0 [] rfl (World.ownsRow_made W #[] 0 (Nat.le_refl _) (by decide) (by simp)) ⟨g, 0, none⟩ n m L rfl (by omega) (HN.out _) h1 (by unfold maxLen; omega) (by omega) (by simp) ?_))
  intro v' w2 hown hgrow _ hat
  have hb : Below W.heap.size W w2 := (HA.out _).grown hgrow (by simp) (fun k hk => by simp [Value.ownBlock] at hk; omega)
  obtain ⟨q1, q2⟩ := hown
  have hres : ∃ g' m' cs', v' = .slice (some ⟨g', 0, none⟩) n m' ∧ Blk w2 g' 100 cs' ∧ (∀ i, i < n * 3 → cs'[i]? = cs[i]?) ∧ W.heap.size ≤ g' := by
    rcases q2 with ⟨rfl, h2⟩ | ⟨g', cap, cur, rfl, h2, h3, h4, h5, h6, h7⟩
    · omega
    · refine ⟨g', cap, cur, rfl, h3, fun i hi => ?_, h2⟩
      rw [← HC.out i hi, ← h7, List.getElem?_take_of_lt hi, Array.getElem?_toList]
  obtain ⟨g', m', cs', rfl, r1, r2, r3⟩ := hres
  have HR := Lib.hid (And.intro r1 (And.intro r2 (And.intro r3 hb)))
  clear q1 q2 r1 r2 r3 hb hgrow hat HN HA HC
  go_wp2_with fail
  go_ret
  exact ⟨g', m', cs', rfl, HR.out⟩
theorem cloneLevel_c (W : World) (g n m : Nat) (cs : Array Value) (hb : Blk W g 94 cs) (hn : n * 3 ≤ cs.size) (h1 : ∀ u ∈ cs.toList.take (n * 3), u.oneCell' = true) (hl : n ≤ 65536) (h0 : 1 ≤ n) :
    Calls Try.prog 70 #[.slice (some ⟨g, 0, none⟩) n m] W fun e w' => ∃ g' m' cs', e = .returned (.slice (some ⟨g', 0, none⟩) n m') ∧ Blk w' g' 94 cs' ∧ (∀ i, i < n * 3 → cs'[i]? = cs[i]?) ∧ W.heap.size ≤ g' ∧ Below W.heap.size W w' := by
  obtain ⟨i0, hi, hz0, hz1, hz2⟩ := info_parts infoL
  have hnil := fun (X : World) (a : Option Addr) (n c : Nat) => Lib.run_eql_slice_nil (P := Try.prog) X 74 94 a n c 0 0 Try.underlying74
  have hlen : (cs.toList.take (n * 3)).length = n * 3 := by simp; omega
  have HN := Lib.hid (fun (X : Obj) (j : Nat) (u : Value) (hj : (cs.toList.take (n * 3))[j]? = some u) => (by
    have hj3 : j < n * 3 := by
      have := (List.getElem?_eq_some_iff.1 hj).1
      omega
    rw [List.getElem?_take_of_lt hj3, Array.getElem?_toList] at hj
    rw [show ((⟨g, 0, none⟩ : Addr).add j) = ⟨g, j, none⟩ by simp [Addr.add]; intro h; exact h.symm, (hb.below (below_alloc (Below.refl _ W) X)).cell]
    exact hj : (W.alloc X).cell? ((⟨g, 0, none⟩ : Addr).add j) = some u))
  have HA := Lib.hid (fun X => (Below.refl W.heap.size W).alloc (Nat.le_refl _) X)
  have HC := Lib.hid (fun (i : Nat) (hi : i < n * 3) => (by rw [List.getElem?_take_of_lt hi, Array.getElem?_toList] : (cs.toList.take (n * 3))[i]? = cs[i]?))
  clear hb hn
  generalize cs.toList.take (n * 3) = L at *
  go_enter Try.func70, Try.ntmps70
  go_wp2_with (first | (at_builtin; refine wpList_append_own_at _ rfl _ _ 74 rfl W.heap.size 94 i0 _ 3 40 Try.underlying74 hi hz0 hz1 hz2 rfl (by decide) _ 0 [] rfl (World.ownsRow_made W #[] 0 (Nat.le_refl _) (by decide) (by simp)) ⟨g, 0, none⟩ n m L rfl (by omega) (HN.out _) h1 (by unfold maxLen; omega) (by omega) (by simp) ?_))
  intro v' w2 hown hgrow _ hat
  have hb : Below W.heap.size W w2 := (HA.out _).grown hgrow (by simp) (fun k hk => by simp [Value.ownBlock] at hk; omega)
  obtain ⟨q1, q2⟩ := hown
  have hres : ∃ g' m' cs', v' = .slice (some ⟨g', 0, none⟩) n m' ∧ Blk w2 g' 94 cs' ∧ (∀ i, i < n * 3 → cs'[i]? = cs[i]?) ∧ W.heap.size ≤ g' := by
    rcases q2 with ⟨rfl, h2⟩ | ⟨g', cap, cur, rfl, h2, h3, h4, h5, h6, h7⟩
    · omega
    · refine ⟨g', cap, cur, rfl, h3, fun i hi => ?_, h2⟩
      rw [← HC.out i hi, ← h7, List.getElem?_take_of_lt hi, Array.getElem?_toList]
  obtain ⟨g', m', cs', rfl, r1, r2, r3⟩ := hres
  have HR := Lib.hid (And.intro r1 (And.intro r2 (And.intro r3 hb)))
  clear q1 q2 r1 r2 r3 hb hgrow hat HN HA HC
  go_wp2_with fail
  go_ret
  exact ⟨g', m', cs', rfl, HR.out⟩
section
variable {W W' W1 : World} {B A L w h D : Nat} {nd : Nat → Nat} {u : Int} {Q : Nat → Nat → Nat → Nd}
theorem Tr.oneL (H : Tr W B A L nd w h D u Q) {cs : Array Value} (hl2 : ∀ k, k < D → cs[k * 3]? = some (.int .i64 (dm w k : Int)) ∧ cs[k * 3 + 1]? = some (.int .i64 (dm h k : Int)) ∧ ∃ m, cs[k * 3 + 2]? = some (.slice (some ⟨nd k, 0, none⟩) (dm w k * dm h k) m)) : D * 3 ≤ cs.size ∧ ∀ u ∈ cs.toList.take (D * 3), u.oneCell' = true := by
  refine ⟨?_, fun u hu => ?_⟩
  · obtain ⟨_, _, m, h2⟩ := hl2 (D - 1) (by have := H.d1; omega)
    have := (Array.getElem?_eq_some_iff.1 h2).1
    have := H.d1
    omega
  · obtain ⟨i, hi⟩ := List.getElem?_of_mem hu
    have hlt : i < D * 3 := by
      have := (List.getElem?_eq_some_iff.1 hi).1
      simp at this; omega
    rw [List.getElem?_take_of_lt hlt, Array.getElem?_toList] at hi
    obtain ⟨a, b, m, c⟩ := hl2 (i / 3) (by omega)
    rcases (show i = i / 3 * 3 ∨ i = i / 3 * 3 + 1 ∨ i = i / 3 * 3 + 2 by omega) with e | e | e <;> rw [e] at hi
    · rw [a] at hi; obtain rfl := Option.some.inj hi; rfl
    · rw [b] at hi; obtain rfl := Option.some.inj hi; rfl
    · rw [c] at hi; obtain rfl := Option.some.inj hi; rfl
theorem oneN {k : Nat} {cs : Array Value} (hw : 1 ≤ dm w k) (hh : 1 ≤ dm h k) (hn2 : ∀ x y, x < dm w k → y < dm h k → cs[(y * dm w k + x) * 3]? = some (.int .i64 (Q k x y).v) ∧ cs[(y * dm w k + x) * 3 + 1]? = some (.int .i64 (Q k x y).l) ∧ cs[(y * dm w k + x) * 3 + 2]? = some (.bool (Q k x y).b)) : dm w k * dm h k * 3 ≤ cs.size ∧ ∀ u ∈ cs.toList.take (dm w k * dm h k * 3), u.oneCell' = true := by
  refine ⟨?_, fun u hu => ?_⟩
  · obtain ⟨_, _, h2⟩ := hn2 (dm w k - 1) (dm h k - 1) (by omega) (by omega)
    have h3 := (Array.getElem?_eq_some_iff.1 h2).1
    have e : (dm h k - 1) * dm w k + (dm w k - 1) + 1 = dm w k * dm h k := by
      generalize dm w k = a at *
      obtain ⟨b, hb⟩ : ∃ b, dm h k = b + 1 := ⟨dm h k - 1, by omega⟩
      rw [hb, Nat.add_sub_cancel, Nat.mul_comm a, Nat.succ_mul]
      omega
    omega
  · obtain ⟨i, hi⟩ := List.getElem?_of_mem hu
    have hlt : i < dm w k * dm h k * 3 := by
      have := (List.getElem?_eq_some_iff.1 hi).1
      simp at this; omega
    rw [List.getElem?_take_of_lt hlt, Array.getElem?_toList] at hi
    have hj : i / 3 < dm w k * dm h k := by omega
    have hx : i / 3 % dm w k < dm w k := Nat.mod_lt _ (by omega)
    have hy : i / 3 / dm w k < dm h k := Nat.div_lt_of_lt_mul hj
    obtain ⟨a, b, c⟩ := hn2 _ _ hx hy
    have e : i / 3 / dm w k * dm w k + i / 3 % dm w k = i / 3 := by rw [Nat.mul_comm]; exact Nat.div_add_mod _ _
    rw [e] at a b c
    rcases (show i = i / 3 * 3 ∨ i = i / 3 * 3 + 1 ∨ i = i / 3 * 3 + 2 by omega) with e | e | e <;> rw [e] at hi
    · rw [a] at hi; obtain rfl := Option.some.inj hi; rfl
    · rw [b] at hi; obtain rfl := Option.some.inj hi; rfl
    · rw [c] at hi; obtain rfl := Option.some.inj hi; rfl
end
/-- A clone under way: its levels stand, the nodes of the first k are its own. -/
structure Cw (W0 : World) (A L : Nat) (nd : Nat → Nat) (w h D : Nat) (u : Int) (Q : Nat → Nat → Nat → Nd) (B' A' L' : Nat) (m' : Nat) (nd' : Nat → Nat) (k : Nat) (W : World) : Prop where
  tr : Tr W B' A L nd w h D u Q
  below : Below W0.heap.size W0 W
  geA : W0.heap.size ≤ A'
  geL : W0.heap.size ≤ L'
  obj : Blk W A' 77 #[.pointer (some ⟨A', 0, none⟩), .slice (some ⟨L', 0, none⟩) D m', .int .i64 u]
  lvs : ∃ cs, Blk W L' 94 cs ∧ ∀ i, i < D → cs[i * 3]? = some (.int .i64 (dm w i : Int)) ∧ cs[i * 3 + 1]? = some (.int .i64 (dm h i : Int)) ∧ ∃ m, cs[i * 3 + 2]? = some (.slice (some ⟨if i < k then nd' i else nd i, 0, none⟩) (dm w i * dm h i) m)
  nds : ∀ i, i < k → (W0.heap.size ≤ nd' i ∧ ∃ cs, Blk W (nd' i) 100 cs ∧ ∀ x y, x < dm w i → y < dm h i → cs[(y * dm w i + x) * 3]? = some (.int .i64 (Q i x y).v) ∧ cs[(y * dm w i + x) * 3 + 1]? = some (.int .i64 (Q i x y).l) ∧ cs[(y * dm w i + x) * 3 + 2]? = some (.bool (Q i x y).b))
  inj : ∀ i j, i < k → j < k → nd' i = nd' j → i = j
section
variable {W0 W W1 : World} {B' A L A' L' w h D k m' : Nat} {nd nd' : Nat → Nat} {u : Int} {Q : Nat → Nat → Nat → Nd}
theorem Cw.step (H : Cw W0 A L nd w h D u Q B' A' L' m' nd' k W) (hb : Below W.heap.size W W1) : Cw W0 A L nd w h D u Q B' A' L' m' nd' k W1 := by
  obtain ⟨cs, hl, hl2⟩ := H.lvs
  refine ⟨H.tr.below hb, below_call H.below hb, H.geA, H.geL, H.obj.below hb, ⟨cs, hl.below hb, hl2⟩, fun i hi => ?_, H.inj⟩
  obtain ⟨h1, cs, h2, h3⟩ := H.nds i hi
  exact ⟨h1, cs, h2.below hb, h3⟩
/-- The nodes of one more level are the clone's own. -/
theorem Cw.put (H : Cw W0 A L nd w h D u Q B' A' L' m' nd' k W) (hk : k < D) (hf : ∀ j, Tf A L nd D j → j < W0.heap.size) {g mg : Nat} {cs : Array Value} (hg : Blk W g 100 cs) (hge : ∀ i, i < k → nd' i ≠ g) (h0 : W0.heap.size ≤ g)
    (hcs : ∀ x y, x < dm w k → y < dm h k → cs[(y * dm w k + x) * 3]? = some (.int .i64 (Q k x y).v) ∧ cs[(y * dm w k + x) * 3 + 1]? = some (.int .i64 (Q k x y).l) ∧ cs[(y * dm w k + x) * 3 + 2]? = some (.bool (Q k x y).b)) :
    Cw W0 A L nd w h D u Q B' A' L' m' (fun i => if i = k then g else nd' i) (k + 1) (W.setCell ⟨L', k * 3 + 2, none⟩ (.slice (some ⟨g, 0, none⟩) (dm w k * dm h k) mg)) := by
  obtain ⟨ls, hl, hl2⟩ := H.lvs
  have hLL : ∀ j, j ≠ L' → (W.setCell ⟨L', k * 3 + 2, none⟩ (.slice (some ⟨g, 0, none⟩) (dm w k * dm h k) mg)).heap[j]? = W.heap[j]? := fun j hj => Below.heap_setCell _ _ _ _ hj
  refine ⟨H.tr.keep fun j hj => hLL j (by have := hf j hj; have := H.geL; omega), H.below.setCell H.geL _, H.geA, H.geL, (hLL A' (H.obj.ne hl (by decide))).trans H.obj, ⟨_, hl.set _ _, fun i hi => ?_⟩, fun i hi => ?_, fun i j hi hj he => ?_⟩
  · obtain ⟨a, b, m, c⟩ := hl2 i hi
    obtain ⟨_, _, _, c'⟩ := hl2 k hk
    have hin : k * 3 + 2 < ls.size := (Array.getElem?_eq_some_iff.1 c').1
    refine ⟨?_, ?_, ?_⟩
    · rw [Array.getElem?_setIfInBounds, if_neg (by omega)]; exact a
    · rw [Array.getElem?_setIfInBounds, if_neg (by omega)]; exact b
    · by_cases hik : i = k
      · subst hik
        refine ⟨mg, ?_⟩
        rw [Array.getElem?_setIfInBounds, if_pos rfl, if_pos hin, if_pos (by omega), if_pos rfl]
      · refine ⟨m, ?_⟩
        rw [Array.getElem?_setIfInBounds, if_neg (by omega), c, if_neg hik]
        by_cases h1 : i < k
        · rw [if_pos h1, if_pos (by omega)]
        · rw [if_neg h1, if_neg (by omega)]
  · by_cases hik : i = k
    · subst hik
      simp only [↓reduceIte]
      exact ⟨h0, cs, (hLL g (hg.ne hl (by decide))).trans hg, hcs⟩
    · simp only [if_neg hik]
      obtain ⟨h1, ds, h2, h3⟩ := H.nds i (by omega)
      exact ⟨h1, ds, (hLL _ (h2.ne hl (by decide))).trans h2, h3⟩
  · by_cases hik : i = k <;> by_cases hjk : j = k
    · omega
    · rw [if_pos hik, if_neg hjk] at he
      exact absurd he.symm (hge j (by omega))
    · rw [if_neg hik, if_pos hjk] at he
      exact absurd he (hge i (by omega))
    · rw [if_neg hik, if_neg hjk] at he
      exact H.inj i j (by omega) (by omega) he
theorem Cw.done (H : Cw W0 A L nd w h D u Q B' A' L' m' nd' D W) : Tr W W0.heap.size A' L' nd' w h D u Q := by
  obtain ⟨ls, hl, hl2⟩ := H.lvs
  have T := H.tr
  refine ⟨T.w1, T.h1, T.sz, T.ws, T.hs, T.d1, T.d2, T.top, T.us, H.geA, H.geL, fun k hk => (H.nds k hk).1, H.inj, ⟨m', H.obj⟩, ⟨ls, hl, fun k hk => ?_⟩, fun k hk => (H.nds k hk).2, T.qb⟩
  obtain ⟨a, b, m, c⟩ := hl2 k hk
  rw [if_pos hk] at c
  exact ⟨a, b, m, c⟩
end
/-- What Clone does. -/
def CGives (w h D : Nat) (u : Int) (Q : Nat → Nat → Nat → Nd) (W : World) (e : Ending) (w' : World) : Prop := ∃ A' L' nd', e = .returned (.pointer (some ⟨A', 0, none⟩)) ∧ Tr w' W.heap.size A' L' nd' w h D u Q ∧ Below W.heap.size W w'
theorem clone_c {W : World} {B A L w h D : Nat} {nd : Nat → Nat} {u : Int} {Q : Nat → Nat → Nat → Nd} (H : Tr W B A L nd w h D u Q) : Calls Try.prog 42 #[.pointer (some ⟨A, 0, none⟩)] W (CGives w h D u Q W) := by
  have tm := tmade_y A W H.cells.1
  obtain ⟨mo, ho⟩ := H.obj
  obtain ⟨ls, hl, hl2⟩ := H.lvs
  obtain ⟨o1, o2⟩ := H.oneL hl2
  have hD1 := H.d1
  have hD17 := H.d2
  have HH := Lib.hid H
  have HF := Lib.hid (fun j hj => (H.foot j hj).2)
  have HL2 := Lib.hid hl2
  have hcl := fun (X : World) (hX : Below W.heap.size W X) => cloneLevel_c X L D mo ls (hl.below hX) o1 o2 (by omega) hD1
  have hc0 := hcl W (Below.refl _ _)
  have hc1 := hcl W.drew (Below.refl _ _).drew
  have BD := Lib.hid (Below.refl W.heap.size W).drew
  have c1 : W.cell? ⟨A, 1, none⟩ = some (.slice (some ⟨L, 0, none⟩) D mo) := ho.cell 1
  have c2 : W.cell? ⟨A, 2, none⟩ = some (.int .i64 u) := ho.cell 2
  have d1 : W.drew.cell? ⟨A, 1, none⟩ = some (.slice (some ⟨L, 0, none⟩) D mo) := ho.cell 1
  have d2 : W.drew.cell? ⟨A, 2, none⟩ = some (.int .i64 u) := ho.cell 2
  have HO := Lib.hid ho
  clear H ho hl hl2 o1 o2 hcl
  go_enter Try.func42, Try.ntmps42
  go_upto_region 3 with (first | (go_at_call 59; (with_reducible refine tm.mono ?_); rintro e wn ⟨rfl, rfl⟩))
  go_cut [3] (fun s3 wx => ∃ A' L' m', s3 = .pointer (some ⟨A', 0, none⟩) ∧ Hid (W.heap.size ≤ L' ∧ W.heap.size ≤ A' ∧ Blk wx A' 77 #[.pointer none, .slice (some ⟨L', 0, none⟩) D m', .int .i64 u] ∧ (∃ cs, Blk wx L' 94 cs ∧ ∀ i, i < D * 3 → cs[i]? = ls[i]?) ∧ Below W.heap.size W wx))
  case first =>
    go_region_held3 (fun w' => w'.cell? ⟨A, 1, none⟩ = some (.slice (some ⟨L, 0, none⟩) D mo) ∧ w'.cell? ⟨A, 2, none⟩ = some (.int .i64 u))
      (first | (with_reducible exact ⟨c1, c2⟩) | (with_reducible exact ⟨d1, d2⟩) | (with_reducible exact ⟨e1, e2⟩) | (exact ⟨ea1 _, ea2 _⟩) | fail)
      (first | (go_at_call 70; (with_reducible (first | refine hc0.mono ?_ | refine hc1.mono ?_)); rintro e w5 ⟨g', m', cs', rfl, r1, r2, r3, hb⟩; have B5 : Hid (Below W.heap.size W w5) := Lib.hid (by first | exact hb | exact below_call BD.out hb); have e1 : w5.cell? ⟨A, 1, none⟩ = some (.slice (some ⟨L, 0, none⟩) D mo) := (HO.out.below B5.out).cell 1; have e2 : w5.cell? ⟨A, 2, none⟩ = some (.int .i64 u) := (HO.out.below B5.out).cell 2; have ea1 : ∀ X, (w5.alloc X).cell? ⟨A, 1, none⟩ = some (.slice (some ⟨L, 0, none⟩) D mo) := (fun X => ((HO.out.below B5.out).alloc X).cell 1); have ea2 : ∀ X, (w5.alloc X).cell? ⟨A, 2, none⟩ = some (.int .i64 u) := (fun X => ((HO.out.below B5.out).alloc X).cell 2); have R1 := Lib.hid (And.intro r1 (And.intro r2 r3)); clear hb r1 r2 r3) | fail)
    all_goals
      go_wp2_with fail
      go_meet
      refine ⟨_, g', m', rfl, ?_⟩
      have hA := below_alloc (Below.refl _ w5) (.cells #[.pointer none, .slice (some ⟨g', 0, none⟩) D m', .int .i64 u] 77)
      exact ⟨R1.out.2.2, B5.out.size, Blk.new w5 _ _, ⟨cs', R1.out.1.below hA, R1.out.2.1⟩, below_call B5.out hA⟩
  case rest =>
    obtain ⟨A', L', m', rfl, hC⟩ := hcut
    have C0 := Lib.hid hC.out
    have fA := C0.out.2.2.1.free
    have hp0 : wc.cell? ⟨A', 0, none⟩ = some (.pointer none) := C0.out.2.2.1.cell 0
    clear hC tm hc0 hc1 c1 c2 d1 d2
    have S1 : Hid (Cw W A L nd w h D u Q B A' L' m' nd 0 (wc.setCell ⟨A', 0, none⟩ (.pointer (some ⟨A', 0, none⟩)))) := by
      obtain ⟨g1, g2, g3, ⟨cs', g4, g5⟩, g6⟩ := C0.out
      have hT := HH.out.below g6
      have hb := g6.setCell (p := ⟨A', 0, none⟩) g2 (.pointer (some ⟨A', 0, none⟩))
      refine ⟨HH.out.below hb, hb, g2, g1, g3.set 0 _, ⟨cs', g4.far (p := ⟨A', 0, none⟩) (g4.ne g3 (by decide)) _, fun i hi => ?_⟩, fun i hi => by omega, fun i j hi => by omega⟩
      obtain ⟨a, b, m, c⟩ := HL2.out i hi
      rw [g5 _ (by omega), g5 _ (by omega), g5 _ (by omega), if_neg (by omega)]
      exact ⟨a, b, m, c⟩
    have hc1 := fun (X : World) (hX : Below W.heap.size W X) => (HO.out.below hX).cell 1
    have k1 : (wc.setCell ⟨A', 0, none⟩ (.pointer (some ⟨A', 0, none⟩))).cell? ⟨A, 1, none⟩ = some (.slice (some ⟨L, 0, none⟩) D mo) := hc1 _ S1.out.below
    clear hc1 C0
    go_wp2_with fail
    generalize wc.setCell ⟨A', 0, none⟩ (.pointer (some ⟨A', 0, none⟩)) = w0 at *
    clear k1 fA hp0
    go_loopw [29] (fun i wr => ∃ (k : Nat) (nd' : Nat → Nat), k ≤ D ∧ i = .int .i64 (k : Int) ∧ Hid (Cw W A L nd w h D u Q B A' L' m' nd' k wr)) (fun i _ => D - (intOf i).toNat)
    case atStart => exact ⟨0, nd, Nat.zero_le _, rfl, S1.out⟩
    case round =>
      obtain ⟨k, nd', hk, rfl, hT⟩ := hrel
      by_cases hlt : k < D
      · have kD : (k : Int) < (D : Int) := by omega
        obtain ⟨l0, l1, m2, l2⟩ := hT.out.tr.level hlt
        obtain ⟨q1, q2, q3, q4, q5⟩ := hT.out.tr.dims k
        have q0 : 1 ≤ dm w k * dm h k := Nat.mul_pos (by omega) (by omega)
        obtain ⟨ns, n1, n2⟩ := hT.out.tr.nds k hlt
        obtain ⟨p1, p2⟩ := oneN (Q := Q) (h := h) q1 q3 n2
        have N2 := Lib.hid n2
        obtain ⟨N, hN⟩ : ∃ N, N = dm w k * dm h k := ⟨_, rfl⟩
        obtain ⟨a0, ha⟩ : ∃ a0, a0 = dm w k := ⟨_, rfl⟩
        obtain ⟨b0, hb⟩ : ∃ b0, b0 = dm h k := ⟨_, rfl⟩
        rw [← hN] at l2 p1 p2 q5 q0
        rw [← ha] at l0
        rw [← hb] at l1
        have HE := Lib.hid hN
        clear hN ha hb
        have hA := below_alloc (Below.refl _ wr) (.cells #[.int .i64 (a0 : Int), .int .i64 (b0 : Int), .slice (some ⟨nd k, 0, none⟩) N m2] 94)
        have BX := Blk.new wr 94 #[.int .i64 (a0 : Int), .int .i64 (b0 : Int), .slice (some ⟨nd k, 0, none⟩) N m2]
        have T3 := Lib.hid (hT.out.step hA)
        have N3 := Lib.hid (n1.below hA)
        have HLV : Hid (L' < wr.heap.size) := Lib.hid (hT.out.lvs.elim fun _ z => z.1.lt)
        clear n1 n2 hA hT q1 q2 q3 q4
        go_upto_region 8 with fail
        clear l0 l1 l2
        generalize wr.heap.size = lv at *
        generalize wr.alloc (.cells #[.int .i64 (a0 : Int), .int .i64 (b0 : Int), .slice (some ⟨nd k, 0, none⟩) N m2] 94) = w3 at *
        have BD : Hid (Below w3.heap.size w3 w3.drew) := Lib.hid (Below.refl _ _).drew
        have hcl0 := cloneNode_c w3 (nd k) N m2 ns N3.out p1 p2 q5 q0
        have hcl1 := cloneNode_c w3.drew (nd k) N m2 ns (N3.out.below BD.out) p1 p2 q5 q0
        have BXH := Lib.hid BX
        have x2 : w3.cell? ⟨lv, 2, none⟩ = some (.slice (some ⟨nd k, 0, none⟩) N m2) := BX.cell 2
        have y2 : w3.drew.cell? ⟨lv, 2, none⟩ = some (.slice (some ⟨nd k, 0, none⟩) N m2) := BX.cell 2
        have x1 : w3.cell? ⟨A', 1, none⟩ = some (.slice (some ⟨L', 0, none⟩) D m') := T3.out.obj.cell 1
        have y1 : w3.drew.cell? ⟨A', 1, none⟩ = some (.slice (some ⟨L', 0, none⟩) D m') := T3.out.obj.cell 1
        clear BX p1 p2 q5 q0
        go_region_held3 (fun w' => w'.cell? ⟨A', 1, none⟩ = some (.slice (some ⟨L', 0, none⟩) D m') ∧ w'.cell? ⟨lv, 2, none⟩ = some (.slice (some ⟨nd k, 0, none⟩) N m2))
          (first | (with_reducible exact ⟨x1, x2⟩) | (with_reducible exact ⟨y1, y2⟩) | (with_reducible exact ⟨e1, e2⟩) | (with_reducible exact ⟨f1, f2⟩) | fail)
          (first | (go_at_call 71; (with_reducible (first | refine hcl0.mono ?_ | refine hcl1.mono ?_)); rintro e w5 ⟨g', mg, cs', rfl, r1, r2, r3, hb⟩; have B5 : Hid (Below w3.heap.size w3 w5) := Lib.hid (by first | exact hb | exact below_call BD.out hb); have e1 : w5.cell? ⟨A', 1, none⟩ = some (.slice (some ⟨L', 0, none⟩) D m') := (T3.out.obj.below B5.out).cell 1; have e2 : w5.cell? ⟨lv, 2, none⟩ = some (.slice (some ⟨nd k, 0, none⟩) N m2) := (BXH.out.below B5.out).cell 2; have R1 : Hid (Blk w5 g' 100 cs' ∧ (∀ i, i < N * 3 → cs'[i]? = ns[i]?) ∧ w3.heap.size ≤ g') := Lib.hid (And.intro r1 (And.intro r2 r3)); have T5 := Lib.hid (T3.out.step B5.out); obtain ⟨u5, e3⟩ : ∃ u5, w5.cell? ⟨L', k * 3 + 2, none⟩ = some u5 := (T5.out.lvs.elim fun cs z => (z.2 k hlt).2.2.elim fun m c => ⟨_, by rw [z.1.cell]; exact c⟩); have e4 : w5.frozen? ⟨L', k * 3 + 2, none⟩ = false := (T5.out.lvs.elim fun cs z => z.1.free _); have f1 : (w5.setCell ⟨L', k * 3 + 2, none⟩ (.slice (some ⟨g', 0, none⟩) N mg)).cell? ⟨A', 1, none⟩ = some (.slice (some ⟨L', 0, none⟩) D m') := (T5.out.lvs.elim fun cs z => (T5.out.obj.far (p := ⟨L', k * 3 + 2, none⟩) (T5.out.obj.ne z.1 (by decide)) _).cell 1); have f2 : (w5.setCell ⟨L', k * 3 + 2, none⟩ (.slice (some ⟨g', 0, none⟩) N mg)).cell? ⟨lv, 2, none⟩ = some (.slice (some ⟨nd k, 0, none⟩) N m2) := ((BXH.out.below B5.out).far (p := ⟨L', k * 3 + 2, none⟩) (by have := HLV.out; simp; omega) _).cell 2; clear hb r1 r2 r3) | fail)
        all_goals
          have hlv : ∀ x y, x < dm w k → y < dm h k → cs'[(y * dm w k + x) * 3]? = some (.int .i64 (Q k x y).v) ∧ cs'[(y * dm w k + x) * 3 + 1]? = some (.int .i64 (Q k x y).l) ∧ cs'[(y * dm w k + x) * 3 + 2]? = some (.bool (Q k x y).b) := fun x y hx hy => (by
            have hg := grid_lt hx hy
            rw [← HE.out] at hg
            have r := N2.out x y hx hy
            have r2 := R1.out.2.1
            generalize y * dm w k + x = p at *
            rw [r2 _ (by omega), r2 _ (by omega), r2 _ (by omega)]
            exact r)
          have P6 := T5.out.put hlt HF.out (g := g') (mg := mg) R1.out.1 (fun i hi => (by
            have := (T3.out.nds i hi).2.elim fun _ z => z.1.lt
            have := R1.out.2.2
            omega)) (by have := R1.out.2.2; have := T3.out.below.size; omega) hlv
          rw [← HE.out] at P6
          have F6 := Lib.hid P6
          clear P6 hlv x1 x2 y1 y2 e1 e2 e3 e4 f1 f2 hcl0 hcl1
          go_wp2_with fail
          go_roundw
          case rel => exact ⟨k + 1, _, by omega, by go_num, F6.out⟩
          case measure => simp [intOf]; omega
      · obtain rfl : k = D := by omega
        have F := Lib.hid hT.out.done
        have F2 := Lib.hid hT.out.below
        clear hT
        go_wp2_with fail
        go_ret
        exact ⟨A', L', nd', rfl, F.out, F2.out⟩
end Go.Proofs.Ytaddendclipkkaa
