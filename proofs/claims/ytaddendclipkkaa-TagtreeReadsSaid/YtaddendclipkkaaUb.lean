/-
  Layer 10: a tree of the reference in memory; leaf, Set, Value.
-/
import Derived.Test.YtaddendclipkkaaUa
import Derived.Test.YtaddendclipkkaaTa
import Derived.Test.YtaddendclipkkaaTf
set_option maxRecDepth 100000
namespace Go.Proofs.Ytaddendclipkkaa
open Go.RowKit

theorem bs_mono {w h : Nat} (hw : 1 ≤ w) (hh : 1 ≤ h) {i : Nat} : ∀ {j : Nat}, i ≤ j → bs w h i ≤ bs w h j
  | 0, hij => by
    obtain rfl : i = 0 := by omega
    exact Nat.le_refl _
  | j + 1, hij => by
    by_cases h1 : i = j + 1
    · rw [h1]; exact Nat.le_refl _
    · have := bs_mono hw hh (i := i) (j := j) (by omega)
      show bs w h i ≤ bs w h j + dm w j * dm h j
      omega
/-- The index of a node. -/
def ix (w h k x y : Nat) : Nat := bs w h k + (y * dm w k + x)
theorem ix_lt {w h D k x y : Nat} (hw : 1 ≤ w) (hh : 1 ≤ h) (hk : k < D) (hx : x < dm w k) (hy : y < dm h k) : ix w h k x y < bs w h D := by
  have h1 := bs_mono hw hh (show k + 1 ≤ D by omega)
  have h2 : bs w h (k + 1) = bs w h k + dm w k * dm h k := rfl
  have := grid_lt hx hy
  unfold ix
  omega
theorem ix_inj {w h k x y k' x' y' : Nat} (hw : 1 ≤ w) (hh : 1 ≤ h) (hx : x < dm w k) (hy : y < dm h k) (hx' : x' < dm w k') (hy' : y' < dm h k') (he : ix w h k x y = ix w h k' x' y') : k = k' ∧ x = x' ∧ y = y' := by
  have g1 := grid_lt hx hy
  have g2 := grid_lt hx' hy'
  have s1 : bs w h (k + 1) = bs w h k + dm w k * dm h k := rfl
  have s2 : bs w h (k' + 1) = bs w h k' + dm w k' * dm h k' := rfl
  have hk : k = k' := by
    rcases Nat.lt_trichotomy k k' with h | h | h
    · have := bs_mono hw hh (show k + 1 ≤ k' by omega)
      unfold ix at he; omega
    · exact h
    · have := bs_mono hw hh (show k' + 1 ≤ k by omega)
      unfold ix at he; omega
  subst hk
  unfold ix at he
  exact ⟨rfl, grid_inj hx hx' (by omega)⟩
/-- A tree of the reference: object b, the nodes in block g. -/
structure Ur (W : World) (B b g w h D : Nat) (u : Int) (Q : Nat → Nat → Nat → Nd) : Prop where
  w1 : 1 ≤ w
  h1 : 1 ≤ h
  sz : w * h ≤ 65536
  ws : w ≤ 65536
  hs : h ≤ 65536
  d : D = dep w h
  us : 0 ≤ u ∧ u ≤ 2
  geb : B ≤ b
  geg : B ≤ g
  obj : ∃ m, Blk W b 97 #[.bool true, .int .i64 (w : Int), .int .i64 (h : Int), .slice (some ⟨g, 0, none⟩) (bs w h D) m, .bool (decide (u = 1)), .bool (decide (u = 2))]
  nds : ∃ cs, Blk W g 105 cs ∧ ∀ k x y, k < D → x < dm w k → y < dm h k → cs[ix w h k x y * 3]? = some (.int .i64 (Q k x y).v) ∧ cs[ix w h k x y * 3 + 1]? = some (.int .i64 (Q k x y).l) ∧ cs[ix w h k x y * 3 + 2]? = some (.bool (Q k x y).b)
  vb : ∀ x y, 0 ≤ (Q 0 x y).v ∧ (Q 0 x y).v ≤ 65535
  qb : ∀ k x y, 0 ≤ (Q k x y).l ∧ (Q k x y).l ≤ 65536
/-- The tree's blocks. -/
def Uf (b g k : Nat) : Prop := k = b ∨ k = g
section
variable {W W' W1 : World} {B b g w h D : Nat} {u : Int} {Q : Nat → Nat → Nat → Nd}
theorem Ur.keep (H : Ur W B b g w h D u Q) (hk : ∀ k, Uf b g k → W'.heap[k]? = W.heap[k]?) : Ur W' B b g w h D u Q := by
  obtain ⟨m, ho⟩ := H.obj
  obtain ⟨cs, hn, hn2⟩ := H.nds
  exact ⟨H.w1, H.h1, H.sz, H.ws, H.hs, H.d, H.us, H.geb, H.geg, ⟨m, (hk b (.inl rfl)).trans ho⟩, ⟨cs, (hk g (.inr rfl)).trans hn, hn2⟩, H.vb, H.qb⟩
theorem Ur.foot (H : Ur W B b g w h D u Q) (k : Nat) (hk : Uf b g k) : B ≤ k ∧ k < W.heap.size := by
  rcases hk with rfl | rfl
  · obtain ⟨m, ho⟩ := H.obj
    exact ⟨H.geb, ho.lt⟩
  · obtain ⟨cs, hn, _⟩ := H.nds
    exact ⟨H.geg, hn.lt⟩
theorem Ur.below (H : Ur W B b g w h D u Q) (hb : Below W.heap.size W W') : Ur W' B b g w h D u Q := H.keep fun k hk => hb.block k (H.foot k hk).2
theorem Ur.lower {B' : Nat} (H : Ur W B b g w h D u Q) (hB : B' ≤ B) : Ur W B' b g w h D u Q :=
  ⟨H.w1, H.h1, H.sz, H.ws, H.hs, H.d, H.us, Nat.le_trans hB H.geb, Nat.le_trans hB H.geg, H.obj, H.nds, H.vb, H.qb⟩
theorem Ur.cells (H : Ur W B b g w h D u Q) : W.cell? ⟨b, 0, none⟩ = some (.bool true) ∧ W.cell? ⟨b, 1, none⟩ = some (.int .i64 (w : Int)) ∧ W.cell? ⟨b, 2, none⟩ = some (.int .i64 (h : Int)) ∧ (∃ m, W.cell? ⟨b, 3, none⟩ = some (.slice (some ⟨g, 0, none⟩) (bs w h D) m)) ∧ W.cell? ⟨b, 4, none⟩ = some (.bool (decide (u = 1))) ∧ W.cell? ⟨b, 5, none⟩ = some (.bool (decide (u = 2))) := by
  obtain ⟨m, ho⟩ := H.obj
  exact ⟨ho.cell 0, ho.cell 1, ho.cell 2, ⟨m, ho.cell 3⟩, ho.cell 4, ho.cell 5⟩
theorem Ur.node (H : Ur W B b g w h D u Q) {k x y : Nat} (hk : k < D) (hx : x < dm w k) (hy : y < dm h k) {i : Nat} (hi : i = ix w h k x y) : W.cell? ⟨g, i * 3, none⟩ = some (.int .i64 (Q k x y).v) ∧ W.cell? ⟨g, i * 3 + 1, none⟩ = some (.int .i64 (Q k x y).l) ∧ W.cell? ⟨g, i * 3 + 2, none⟩ = some (.bool (Q k x y).b) := by
  subst hi
  obtain ⟨cs, hn, hn2⟩ := H.nds
  obtain ⟨a, c, d⟩ := hn2 k x y hk hx hy
  exact ⟨by rw [hn.cell]; exact a, by rw [hn.cell]; exact c, by rw [hn.cell]; exact d⟩
theorem Ur.ne (H : Ur W B b g w h D u Q) : b ≠ g := by
  obtain ⟨m, ho⟩ := H.obj
  obtain ⟨cs, hn, _⟩ := H.nds
  exact ho.ne hn (by decide)
theorem Ur.free (H : Ur W B b g w h D u Q) (o : Nat) : W.frozen? ⟨g, o, none⟩ = false := by
  obtain ⟨ds, hn, _⟩ := H.nds
  exact hn.free o
theorem Ur.freeb (H : Ur W B b g w h D u Q) (o : Nat) : W.frozen? ⟨b, o, none⟩ = false := by
  obtain ⟨m, ho⟩ := H.obj
  exact ho.free o
theorem Ur.dd (H : Ur W B b g w h D u Q) : 1 ≤ D ∧ D ≤ 17 ∧ dm w (D - 1) = 1 ∧ dm h (D - 1) = 1 := by
  have := dep_ok H.w1 H.h1 H.ws H.hs
  rw [← H.d] at this
  exact this
theorem Ur.size (H : Ur W B b g w h D u Q) : bs w h D ≤ 17 * 65536 := Nat.le_trans (bs_le H.w1 H.h1 H.sz D) (Nat.mul_le_mul_right _ H.dd.2.1)
theorem Ur.put (H : Ur W B b g w h D u Q) {k X Y : Nat} (hk : k < D) (hX : X < dm w k) (hY : Y < dm h k) (c : Nat) (hc : c < 3) (n : Nd) (hn : ∀ c', c' < 3 → c' ≠ c → comp n c' = comp (Q k X Y) c') (hb : 0 ≤ n.l ∧ n.l ≤ 65536) (hv : k = 0 → 0 ≤ n.v ∧ n.v ≤ 65535) {o : Nat} (ho : o = ix w h k X Y * 3 + c) :
    Ur (W.setCell ⟨g, o, none⟩ (comp n c)) B b g w h D u (upN Q k X Y n) := by
  subst ho
  have t1 := H.ne
  obtain ⟨m, hobj⟩ := H.obj
  obtain ⟨ds, h1, h2⟩ := H.nds
  refine ⟨H.w1, H.h1, H.sz, H.ws, H.hs, H.d, H.us, H.geb, H.geg, ⟨m, hobj.far (p := ⟨g, _, none⟩) t1 _⟩, ⟨_, h1.set _ _, fun i x y hi hx hy => ?_⟩, fun x y => ?_, fun i a b => ?_⟩
  · obtain ⟨a0, a1, a2⟩ := h2 i x y hi hx hy
    obtain ⟨b0, b1, b2⟩ := h2 k X Y hk hX hY
    unfold upN
    have hin : (ix w h k X Y * 3 + c) < ds.size := by
      have := (Array.getElem?_eq_some_iff.1 b2).1
      omega
    by_cases hxy : i = k ∧ x = X ∧ y = Y
    · obtain ⟨rfl, rfl, rfl⟩ := hxy
      rw [if_pos ⟨rfl, rfl, rfl⟩]
      have key : ∀ c', c' < 3 → (ds.setIfInBounds (ix w h i x y * 3 + c) (comp n c))[ix w h i x y * 3 + c']? = some (comp n c') := by
        intro c' hc'
        rw [Array.getElem?_setIfInBounds]
        by_cases he : c' = c
        · subst he
          rw [if_pos rfl, if_pos hin]
        · rw [if_neg (by omega), hn c' hc' he]
          match c', hc' with
          | 0, _ => exact a0
          | 1, _ => exact a1
          | 2, _ => exact a2
      exact ⟨key 0 (by omega), key 1 (by omega), key 2 (by omega)⟩
    · rw [if_neg hxy]
      have hne : ix w h i x y ≠ ix w h k X Y := fun e => hxy (ix_inj H.w1 H.h1 hx hy hX hY e)
      generalize ix w h i x y = p at *
      generalize ix w h k X Y = q at *
      refine ⟨?_, ?_, ?_⟩
      · rw [Array.getElem?_setIfInBounds, if_neg (by omega)]; exact a0
      · rw [Array.getElem?_setIfInBounds, if_neg (by omega)]; exact a1
      · rw [Array.getElem?_setIfInBounds, if_neg (by omega)]; exact a2
  · unfold upN
    split
    · rename_i hc; exact hv hc.1.symm
    · exact H.vb x y
  · unfold upN
    split
    · exact hb
    · exact H.qb i a b
theorem Ur.put3 (H : Ur W B b g w h D u Q) {k X Y : Nat} (hk : k < D) (hX : X < dm w k) (hY : Y < dm h k) (n : Nd) (hb : 0 ≤ n.l ∧ n.l ≤ 65536) (hv : k = 0 → 0 ≤ n.v ∧ n.v ≤ 65535) {o : Nat} (ho : o = ix w h k X Y * 3) :
    Ur (((W.setCell ⟨g, o, none⟩ (.int .i64 n.v)).setCell ⟨g, o + 1, none⟩ (.int .i64 n.l)).setCell ⟨g, o + 2, none⟩ (.bool n.b)) B b g w h D u (upN Q k X Y n) := by
  have q0 := H.put hk hX hY 0 (by omega) ⟨n.v, (Q k X Y).l, (Q k X Y).b⟩ (fun c hc hn => by
    match c, hc with
    | 0, _ => exact absurd rfl hn
    | 1, _ => rfl
    | 2, _ => rfl) (H.qb k X Y) hv (o := o) (by omega)
  have e1 : upN Q k X Y ⟨n.v, (Q k X Y).l, (Q k X Y).b⟩ k X Y = ⟨n.v, (Q k X Y).l, (Q k X Y).b⟩ := by unfold upN; rw [if_pos ⟨rfl, rfl, rfl⟩]
  have q1 := q0.put hk hX hY 1 (by omega) ⟨n.v, n.l, (Q k X Y).b⟩ (fun c hc hn => by
    rw [e1]
    match c, hc with
    | 0, _ => rfl
    | 1, _ => exact absurd rfl hn
    | 2, _ => rfl) hb hv (o := o + 1) (by omega)
  have e2 : upN (upN Q k X Y ⟨n.v, (Q k X Y).l, (Q k X Y).b⟩) k X Y ⟨n.v, n.l, (Q k X Y).b⟩ k X Y = ⟨n.v, n.l, (Q k X Y).b⟩ := by unfold upN; rw [if_pos ⟨rfl, rfl, rfl⟩]
  have q2 := q1.put hk hX hY 2 (by omega) n (fun c hc hn => by
    rw [e2]
    match c, hc with
    | 0, _ => rfl
    | 1, _ => rfl
    | 2, _ => exact absurd rfl hn) hb hv (o := o + 2) (by omega)
  have e3 : upN (upN (upN Q k X Y ⟨n.v, (Q k X Y).l, (Q k X Y).b⟩) k X Y ⟨n.v, n.l, (Q k X Y).b⟩) k X Y n = upN Q k X Y n := by
    funext i a b
    unfold upN
    by_cases h : i = k ∧ a = X ∧ b = Y
    · rw [if_pos h, if_pos h]
    · rw [if_neg h, if_neg h, if_neg h, if_neg h]
  rw [e3] at q2
  exact q2
/-- Another use. -/
theorem Ur.setE (H : Ur W B b g w h D u Q) (hu : u ≠ 2) : Ur (W.setCell ⟨b, 4, none⟩ (.bool true)) B b g w h D 1 Q := by
  obtain ⟨m, ho⟩ := H.obj
  obtain ⟨cs, hn, hn2⟩ := H.nds
  have e := ho.set 4 (.bool true)
  refine ⟨H.w1, H.h1, H.sz, H.ws, H.hs, H.d, by omega, H.geb, H.geg, ⟨m, ?_⟩, ⟨cs, hn.far (p := ⟨b, 4, none⟩) H.ne.symm _, hn2⟩, H.vb, H.qb⟩
  rw [decide_eq_false hu] at e
  exact e
theorem Ur.setD (H : Ur W B b g w h D u Q) (hu : u ≠ 1) : Ur (W.setCell ⟨b, 5, none⟩ (.bool true)) B b g w h D 2 Q := by
  obtain ⟨m, ho⟩ := H.obj
  obtain ⟨cs, hn, hn2⟩ := H.nds
  have e := ho.set 5 (.bool true)
  refine ⟨H.w1, H.h1, H.sz, H.ws, H.hs, H.d, by omega, H.geb, H.geg, ⟨m, ?_⟩, ⟨cs, hn.far (p := ⟨b, 5, none⟩) H.ne.symm _, hn2⟩, H.vb, H.qb⟩
  rw [decide_eq_false hu] at e
  exact e
end
/-- A new tree. -/
theorem ur_new {w h : Nat} {W W' : World} {e : Ending} (hok : okN (w : Int) (h : Int)) (H : UNew w h W e W') : Ur W' W.heap.size (W.heap.size + 1) W.heap.size w h (dep w h) 0 (fun _ _ _ => ⟨0, 0, false⟩) := by
  obtain ⟨_, hb, ho, hn⟩ := H
  obtain ⟨a1, a2, a3, a4, a5⟩ := hok
  rw [← Int.natCast_mul] at a5
  refine ⟨by omega, by omega, by omega, by omega, by omega, rfl, by omega, by omega, Nat.le_refl _, ⟨_, ho⟩, ⟨_, hn, fun k x y hk hx hy => ?_⟩, fun x y => by simp, fun k x y => by simp⟩
  exact made3 _ _ _ _ _ (ix_lt (by omega) (by omega) hk hx hy)
theorem nilU (w : World) (a : Addr) : (binOp .eql 48 (.pointer (some a)) (.pointer none)).run Try.prog w = .ok (.bool false) w := by
  have h : ∀ d : Nat, (Op.equalIn (d + 1) 48 (.pointer (some a)) (.pointer none)).run Try.prog w = .ok false w := fun d => by
    simp [Op.equalIn, run_underlying (P := Try.prog) (t := 48) Try.underlying48]
  simp only [binOp]
  simp [Op.equal, Op.maxDepth, h 9999]
section
variable {W : World} {B b g w h D : Nat} {u : Int} {Q : Nat → Nat → Nat → Nd}
theorem uleaf_c (H : Ur W B b g w h D u Q) (x y : Int) : Calls Try.prog 63 #[.pointer (some ⟨b, 0, none⟩), .int .i64 x, .int .i64 y] W fun e w' => e = .returned (.bool (decide (inT w h x y))) ∧ W = w' := by
  obtain ⟨c0, c1, c2, _⟩ := H.cells
  have hc : inT w h x y ∨ ¬ (0 ≤ x) ∨ (0 ≤ x ∧ ¬ x < w) ∨ (0 ≤ x ∧ x < w ∧ ¬ 0 ≤ y) ∨ (0 ≤ x ∧ x < w ∧ 0 ≤ y ∧ ¬ y < h) := by unfold inT; omega
  clear H
  rcases hc with hc | hc | hc | hc | hc
  · obtain ⟨i1, i2, i3, i4⟩ := id hc
    rw [decide_eq_true hc]
    clear hc
    go_enter Try.func63, Try.ntmps63
    go_wp2_with fail
    go_ret
    exact ⟨by first | rfl | simpa using i4, rfl⟩
  all_goals
    rw [decide_eq_false (by unfold inT; omega)]
  · go_enter Try.func63, Try.ntmps63
    go_wp2_with fail
    go_ret
    exact ⟨rfl, rfl⟩
  · obtain ⟨i1, i2⟩ := hc
    go_enter Try.func63, Try.ntmps63
    go_wp2_with fail
    go_ret
    exact ⟨rfl, rfl⟩
  · obtain ⟨i1, i2, i3⟩ := hc
    go_enter Try.func63, Try.ntmps63
    go_wp2_with fail
    go_ret
    exact ⟨rfl, rfl⟩
  · obtain ⟨i1, i2, i3, i4⟩ := hc
    go_enter Try.func63, Try.ntmps63
    go_wp2_with fail
    go_ret
    exact ⟨by first | rfl | simpa using i4, rfl⟩
theorem ix0 (w h x y : Nat) : ix w h 0 x y = y * w + x := by unfold ix; show 0 + (y * w + x) = _; omega
set_option maxHeartbeats 4000000 in
theorem uvalue_c (H : Ur W B b g w h D u Q) (x y : Int) : Calls Try.prog 38 #[.pointer (some ⟨b, 0, none⟩), .int .i64 x, .int .i64 y] W fun e w' => e = .returned (.tuple #[.int .i64 (vlV w h Q x y), .bool (vlB w h Q x y)]) ∧ Below W.heap.size W w' := by
  have hl := fun n => (uleaf_c (H.below (drewN_below W n)) x y).mono fun e w' (z : e = _ ∧ W.drewN n = w') => And.intro z.1 z.2.symm
  unfold vlV vlB
  have HH := Lib.hid H
  obtain ⟨c0, c1, c2, ⟨m, c3⟩, c4, c5⟩ := H.cells
  by_cases hin : inT w h x y
  · rw [decide_eq_true hin] at hl ⊢
    obtain ⟨i1, i2, i3, i4⟩ := id hin
    obtain ⟨x0, rfl⟩ : ∃ n : Nat, x = n := ⟨x.toNat, by omega⟩
    obtain ⟨y0, rfl⟩ : ∃ n : Nat, y = n := ⟨y.toNat, by omega⟩
    rw [show (Int.toNat (x0 : Int)) = x0 by omega, show (Int.toNat (y0 : Int)) = y0 by omega]
    have hd := H.dd
    have hnd := fun (X : World) (hX : Ur X B b g w h D u Q) => hX.node (k := 0) (x := x0) (y := y0) (by omega) (show x0 < w by omega) (show y0 < h by omega) (i := y0 * w + x0) (ix0 w h x0 y0).symm
    obtain ⟨n0, n1, n2⟩ := hnd W H
    have HND := Lib.hid hnd
    have hlt := ix_lt H.w1 H.h1 (k := 0) (D := D) (x := x0) (y := y0) (by omega) (show x0 < w by omega) (show y0 < h by omega)
    rw [ix0] at hlt
    have hsz := H.size
    have wm : IntKind.i64.wrap ((y0 : Int) * (w : Int)) = ((y0 * w : Nat) : Int) := by rw [← Int.natCast_mul, IntWalk.i64_left]; generalize y0 * w = P at *; unfold wrap64; omega
    have wa : IntKind.i64.wrap (((y0 * w : Nat) : Int) + (x0 : Int)) = ((y0 * w + x0 : Nat) : Int) := by rw [IntWalk.i64_left]; generalize y0 * w = P at *; unfold wrap64; omega
    have hltI : ((y0 * w + x0 : Nat) : Int) < ((bs w h D : Nat) : Int) := by omega
    generalize y0 * w + x0 = i at *
    generalize y0 * w = P at *
    obtain ⟨N, hN⟩ : ∃ N, N = bs w h D := ⟨_, rfl⟩
    rw [← hN] at c3 hlt hltI hsz
    have HN := Lib.hid hN
    clear hN hnd
    cases hb : (Q 0 x0 y0).b with
    | false =>
      rw [hb] at n2
      rw [if_neg (by simp)]
      clear hb hin H
      go_enter Try.func38, Try.ntmps38
      go_upto_region 1 with fail
      go_quiet ((go_at_call 63; exact Calls.quiet_of_same (hl _)))
      go_wp2_with fail
      go_ret2
      exact ⟨rfl, drewN_below _ _⟩
    | true =>
      rw [hb] at n2
      rw [if_pos ⟨hin, rfl⟩]
      have HB := Lib.hid hb
      clear hb hin H
      go_enter Try.func38, Try.ntmps38
      go_upto_region 1 with fail
      go_quiet ((go_at_call 63; exact Calls.quiet_of_same (hl _)))
      have H1 := HH.out.below (drewN_below W nq)
      have K1 := Lib.hid (drewN_below W nq)
      clear c0 c1 c2 c3 c4 c5 n0 n1 n2 hl
      obtain ⟨c0, c1, c2, ⟨m, c3⟩, c4, c5⟩ := H1.cells
      obtain ⟨n0, n1, n2⟩ := HND.out _ H1
      rw [HB.out] at n2
      rw [← HN.out] at c3
      clear H1
      generalize W.drewN nq = W1 at *
      go_wp2_with fail
      go_quiet (fail)
      go_wp2_with fail
      go_ret2
      exact ⟨rfl, below_call K1.out (drewN_below _ _)⟩
  · rw [decide_eq_false hin] at hl ⊢
    rw [if_neg (fun c => hin c.1), Bool.false_and]
    clear hin H
    go_enter Try.func38, Try.ntmps38
    go_upto_region 1 with fail
    go_quiet ((go_at_call 63; exact Calls.quiet_of_same (hl _)))
    go_wp2_with fail
    go_ret2
    exact ⟨rfl, drewN_below _ _⟩
/-- The nodes behind Set. -/
def usQ (w h : Nat) (u : Int) (Q : Nat → Nat → Nat → Nd) (x y v : Int) : Nat → Nat → Nat → Nd := if u = 0 ∧ okT w h x y v 65535 then upN Q 0 x.toNat y.toNat ⟨v, (Q 0 x.toNat y.toNat).l, (Q 0 x.toNat y.toNat).b⟩ else Q
theorem uset_c (H : Ur W B b g w h D u Q) (x y v : Int) :
    Calls Try.prog 34 #[.pointer (some ⟨b, 0, none⟩), .int .i64 x, .int .i64 y, .int .i64 v] W fun e w' => e = .returned (.int .i64 (stE u w h x y v)) ∧ Ur w' B b g w h D u (usQ w h u Q x y v) ∧ Kf (Uf b g) W w' := by
  unfold stE usQ
  have hl := uleaf_c H x y
  have hn := nilU W ⟨b, 0, none⟩
  obtain ⟨c0, c1, c2, ⟨m, c3⟩, c4, c5⟩ := H.cells
  have hus := H.us
  have hu : u = 0 ∨ u = 1 ∨ u = 2 := by omega
  clear hus
  rcases hu with rfl | rfl | rfl
  · rw [if_neg (by omega)]
    simp only [show decide ((0 : Int) = 1) = false by decide, show decide ((0 : Int) = 2) = false by decide] at c4 c5
    by_cases hok : okT w h x y v 65535
    · rw [if_pos hok, if_pos ⟨rfl, hok⟩]
      obtain ⟨⟨i1, i2, i3, i4⟩, i5, i6⟩ := id hok
      rw [decide_eq_true hok.1] at hl
      obtain ⟨x0, rfl⟩ : ∃ n : Nat, x = n := ⟨x.toNat, by omega⟩
      obtain ⟨y0, rfl⟩ : ∃ n : Nat, y = n := ⟨y.toNat, by omega⟩
      rw [show (Int.toNat (x0 : Int)) = x0 by omega, show (Int.toNat (y0 : Int)) = y0 by omega]
      have hd := H.dd
      obtain ⟨n0, n1, n2⟩ := H.node (k := 0) (x := x0) (y := y0) (by omega) (show x0 < w by omega) (show y0 < h by omega) (i := y0 * w + x0) (ix0 w h x0 y0).symm
      have hlt := ix_lt H.w1 H.h1 (k := 0) (D := D) (x := x0) (y := y0) (by omega) (show x0 < w by omega) (show y0 < h by omega)
      rw [ix0] at hlt
      have hsz := H.size
      have hfr := H.free
      have hput := Lib.hid (H.put (k := 0) (X := x0) (Y := y0) (by omega) (show x0 < w by omega) (show y0 < h by omega) 0 (by omega) ⟨v, (Q 0 x0 y0).l, (Q 0 x0 y0).b⟩ (fun c hc hn => by
        match c, hc with
        | 0, _ => exact absurd rfl hn
        | 1, _ => rfl
        | 2, _ => rfl) (H.qb 0 x0 y0) (fun _ => ⟨i5, i6⟩) (o := (y0 * w + x0) * 3) (by rw [ix0]; omega))
      have hkf := Lib.hid (Kf.set (S := Uf b g) g ((y0 * w + x0) * 3) (.int .i64 v) (.inr rfl) W)
      have wm : IntKind.i64.wrap ((y0 : Int) * (w : Int)) = ((y0 * w : Nat) : Int) := by rw [← Int.natCast_mul, IntWalk.i64_left]; generalize y0 * w = P at *; unfold wrap64; omega
      have wa : IntKind.i64.wrap (((y0 * w : Nat) : Int) + (x0 : Int)) = ((y0 * w + x0 : Nat) : Int) := by rw [IntWalk.i64_left]; generalize y0 * w = P at *; unfold wrap64; omega
      have hltI : ((y0 * w + x0 : Nat) : Int) < ((bs w h D : Nat) : Int) := by omega
      generalize y0 * w + x0 = i at *
      generalize y0 * w = P at *
      generalize bs w h D = N at *
      clear hok H
      go_enter Try.func34, Try.ntmps34
      go_upto_region 5 with (first | (go_at_call 63; (with_reducible refine hl.mono ?_); rintro e wn ⟨rfl, rfl⟩))
      go_region
      all_goals
        go_wp2_with fail
        go_ret
        first | exact ⟨rfl, hput.out, hkf.out⟩ | exact ⟨rfl, hput.out.below (Below.refl _ _).drew, hkf.out.trans (Kf.of_below _ (Below.refl _ _).drew)⟩
    · rw [if_neg hok, if_neg (fun c => hok c.2)]
      have HH := Lib.hid H
      have hcs : decide (inT w h x y) = false ∨ (decide (inT w h x y) = true ∧ v < 0) ∨ (decide (inT w h x y) = true ∧ 0 ≤ v ∧ 65535 < v) := by
        by_cases hin : inT w h x y
        · rw [decide_eq_true hin]
          by_cases p : v < 0
          · exact .inr (.inl ⟨rfl, p⟩)
          · by_cases q : 65535 < v
            · exact .inr (.inr ⟨rfl, by omega, q⟩)
            · exact absurd ⟨hin, by omega, by omega⟩ hok
        · exact .inl (decide_eq_false hin)
      clear H hok
      rcases hcs with h1 | ⟨h1, h2⟩ | ⟨h1, h2, h3⟩ <;> rw [h1] at hl <;> clear h1 <;>
       (go_enter Try.func34, Try.ntmps34
        go_wp2_with (first | (go_at_call 63; (with_reducible refine hl.mono ?_); rintro e wn ⟨rfl, rfl⟩))
        go_ret
        exact ⟨rfl, HH.out, Kf.refl _ _⟩)
  · rw [if_pos (by omega), if_neg (fun c => by omega)]
    simp only [show decide ((1 : Int) = 2) = false by decide] at c4 c5
    have HH := Lib.hid H
    clear H hl
    go_enter Try.func34, Try.ntmps34
    go_wp2_with fail
    go_ret
    exact ⟨rfl, HH.out, Kf.refl _ _⟩
  · rw [if_pos (by omega), if_neg (fun c => by omega)]
    simp only [show decide ((2 : Int) = 1) = false by decide] at c4 c5
    have HH := Lib.hid H
    clear H hl
    go_enter Try.func34, Try.ntmps34
    go_wp2_with fail
    go_ret
    exact ⟨rfl, HH.out, Kf.refl _ _⟩
end
end Go.Proofs.Ytaddendclipkkaa
