/-
  Layer 10: the reference's minima.
-/
import Derived.Test.YtaddendclipkkaaUc
import Derived.BigRegion
set_option maxRecDepth 100000
namespace Go.Proofs.Ytaddendclipkkaa
open Go.RowKit

/-- The values of all nodes: the least of the leaves below. -/
def minQ (w h : Nat) (Q : Nat → Nat → Nat → Nd) : Nat → Nat → Nat → Nd := fun k x y => ⟨mv w h (fun X Y => (Q 0 X Y).v) k x y, (Q k x y).l, (Q k x y).b⟩
/-- While minima runs, ahead of level k + 1: the levels up to k are done. -/
structure Mo (w h D k : Nat) (Q Q' : Nat → Nat → Nat → Nd) : Prop where
  lb : ∀ j x y, (Q' j x y).l = (Q j x y).l ∧ (Q' j x y).b = (Q j x y).b
  v0 : ∀ x y, (Q' 0 x y).v = (Q 0 x y).v
  lo : ∀ j x y, j ≤ k → j < D → x < dm w j → y < dm h j → (Q' j x y).v = mv w h (fun X Y => (Q 0 X Y).v) j x y
/-- The nodes of level k + 1 while the children are gone through. -/
structure Mn (w h D k : Nat) (Q : Nat → Nat → Nat → Nd) (vis : Nat → Nat → Prop) (Q' : Nat → Nat → Nat → Nd) : Prop where
  mo : Mo w h D k Q Q'
  up : ∀ x y, vis x y → x < dm w k → y < dm h k → (Q' (k + 1) (x / 2) (y / 2)).v ≤ (Q' k x y).v
  ge : ∀ X Y, X < dm w (k + 1) → Y < dm h (k + 1) → ∀ m, m ≤ 65536 → (∀ x y, x < dm w k → y < dm h k → x / 2 = X → y / 2 = Y → m ≤ (Q' k x y).v) → m ≤ (Q' (k + 1) X Y).v
section
variable {w h D k : Nat} {Q Q' : Nat → Nat → Nat → Nd} {vis : Nat → Nat → Prop}
theorem Mo.put (H : Mo w h D k Q Q') (X Y : Nat) (v : Int) : Mo w h D k Q (upN Q' (k + 1) X Y ⟨v, (Q' (k + 1) X Y).l, (Q' (k + 1) X Y).b⟩) := by
  refine ⟨fun j x y => ?_, fun x y => ?_, fun j x y hj hD hx hy => ?_⟩
  · unfold upN
    split
    · rename_i hc
      obtain ⟨rfl, rfl, rfl⟩ := hc
      exact H.lb _ _ _
    · exact H.lb j x y
  · unfold upN
    rw [if_neg (by omega)]
    exact H.v0 x y
  · unfold upN
    rw [if_neg (by omega)]
    exact H.lo j x y hj hD hx hy
theorem dm_half {n x : Nat} (k : Nat) (hx : x < dm n k) : x / 2 < dm n (k + 1) := by
  show x / 2 < (dm n k + 1) / 2
  omega
theorem Mn.start (H : Mo w h D k Q Q') (hf : ∀ X Y, X < dm w (k + 1) → Y < dm h (k + 1) → (Q' (k + 1) X Y).v = 65536) : Mn w h D k Q (fun _ _ => False) Q' :=
  ⟨H, fun _ _ h => h.elim, fun X Y hX hY m hm _ => by rw [hf X Y hX hY]; exact hm⟩
theorem Mn.next (H : Mn w h D k Q vis Q') {x y : Nat} (hx : x < dm w k) (hy : y < dm h k) {vis' : Nat → Nat → Prop} (hv : ∀ a b, vis' a b → vis a b ∨ (a = x ∧ b = y)) :
    Mn w h D k Q vis' (upN Q' (k + 1) (x / 2) (y / 2) ⟨min (Q' (k + 1) (x / 2) (y / 2)).v (Q' k x y).v, (Q' (k + 1) (x / 2) (y / 2)).l, (Q' (k + 1) (x / 2) (y / 2)).b⟩) := by
  have ek : ∀ a b, upN Q' (k + 1) (x / 2) (y / 2) ⟨min (Q' (k + 1) (x / 2) (y / 2)).v (Q' k x y).v, (Q' (k + 1) (x / 2) (y / 2)).l, (Q' (k + 1) (x / 2) (y / 2)).b⟩ k a b = Q' k a b := fun a b => by
    unfold upN
    rw [if_neg (by omega)]
  refine ⟨H.mo.put _ _ _, fun a b hab ha hb => ?_, fun X Y hX hY m hm hc => ?_⟩
  · rw [ek]
    unfold upN
    by_cases he : a / 2 = x / 2 ∧ b / 2 = y / 2
    · rw [if_pos ⟨rfl, he⟩]
      show min _ _ ≤ _
      rcases hv a b hab with h1 | ⟨rfl, rfl⟩
      · have := H.up a b h1 ha hb
        rw [he.1, he.2] at this
        omega
      · omega
    · rw [if_neg (fun c => he c.2)]
      rcases hv a b hab with h1 | ⟨rfl, rfl⟩
      · exact H.up a b h1 ha hb
      · exact absurd ⟨rfl, rfl⟩ he
  · have hc' : ∀ a b, a < dm w k → b < dm h k → a / 2 = X → b / 2 = Y → m ≤ (Q' k a b).v := fun a b h1 h2 h3 h4 => by
      have := hc a b h1 h2 h3 h4
      rw [ek] at this
      exact this
    have h1 := H.ge X Y hX hY m hm hc'
    unfold upN
    by_cases he : X = x / 2 ∧ Y = y / 2
    · rw [if_pos ⟨rfl, he⟩]
      have h2 := hc' x y hx hy he.1.symm he.2.symm
      rw [he.1, he.2] at h1
      show m ≤ min _ _
      omega
    · rw [if_neg (fun c => he c.2)]
      exact h1
theorem Mn.sub (H : Mn w h D k Q vis Q') {vis' : Nat → Nat → Prop} (hv : ∀ x y, x < dm w k → y < dm h k → vis' x y → vis x y) : Mn w h D k Q vis' Q' :=
  ⟨H.mo, fun x y h hx hy => H.up x y (hv x y hx hy h) hx hy, H.ge⟩
theorem Mn.done (H : Mn w h D k Q vis Q') (hv : ∀ x y, x < dm w k → y < dm h k → vis x y) (hk : k < D) (hf : ∀ x y, 0 ≤ (Q 0 x y).v ∧ (Q 0 x y).v ≤ 65535) : Mo w h D (k + 1) Q Q' := by
  refine ⟨H.mo.lb, H.mo.v0, fun j x y hj hD hx hy => ?_⟩
  by_cases hjk : j ≤ k
  · exact H.mo.lo j x y hjk hD hx hy
  obtain rfl : j = k + 1 := by omega
  have ex : dm w (k + 1) = (dm w k + 1) / 2 := rfl
  have ey : dm h (k + 1) = (dm h k + 1) / 2 := rfl
  have bd := mv_bd w h (fun X Y => (Q 0 X Y).v) hf (k + 1) x y
  have bdk := mv_bd w h (fun X Y => (Q 0 X Y).v) hf k
  have le := H.ge x y hx hy (mv w h (fun X Y => (Q 0 X Y).v) (k + 1) x y) (by omega) (fun a b ha hb e1 e2 => by
    rw [H.mo.lo k a b (Nat.le_refl _) hk ha hb]
    have := (lsA_le (mv w h (fun X Y => (Q 0 X Y).v) k) (2 * x) (2 * y) (min 2 (dm w k - 2 * x)) 65535 (min 2 (dm h k - 2 * y))).2 (b - 2 * y) (a - 2 * x) (by omega) (by omega)
    rw [show 2 * x + (a - 2 * x) = a by omega, show 2 * y + (b - 2 * y) = b by omega] at this
    exact this)
  have hup := fun a b ha hb => (H.mo.lo k a b (Nat.le_refl _) hk ha hb) ▸ H.up a b (hv a b ha hb) ha hb
  have h0 : (Q' (k + 1) x y).v ≤ 65535 := by
    have h1 := hup (2 * x) (2 * y) (by omega) (by omega)
    rw [show 2 * x / 2 = x by omega, show 2 * y / 2 = y by omega] at h1
    have := (bdk (2 * x) (2 * y)).2
    omega
  have ge := lsA_ge (mv w h (fun X Y => (Q 0 X Y).v) k) (2 * x) (2 * y) (min 2 (dm w k - 2 * x)) 65535 (Q' (k + 1) x y).v (min 2 (dm h k - 2 * y)) h0 (fun j i hj hi => by
    have h1 := hup (2 * x + i) (2 * y + j) (by omega) (by omega)
    rw [show (2 * x + i) / 2 = x by omega, show (2 * y + j) / 2 = y by omega] at h1
    exact h1)
  have e : mv w h (fun X Y => (Q 0 X Y).v) (k + 1) x y = lsA (mv w h (fun X Y => (Q 0 X Y).v) k) (2 * x) (2 * y) (min 2 (dm w k - 2 * x)) 65535 (min 2 (dm h k - 2 * y)) := rfl
  rw [← e] at ge
  omega
theorem Mo.first : Mo w h D 0 Q Q := by
  refine ⟨fun _ _ _ => ⟨rfl, rfl⟩, fun _ _ => rfl, fun j x y hj _ _ _ => ?_⟩
  obtain rfl : j = 0 := by omega
  rfl
end
section
variable {W : World} {B b g w h D : Nat} {u : Int} {Q Q' : Nat → Nat → Nat → Nd}
theorem Ur.congr (H : Ur W B b g w h D u Q) (hQ : ∀ k x y, k < D → x < dm w k → y < dm h k → Q k x y = Q' k x y) (hv : ∀ x y, 0 ≤ (Q' 0 x y).v ∧ (Q' 0 x y).v ≤ 65535) (hq : ∀ k x y, 0 ≤ (Q' k x y).l ∧ (Q' k x y).l ≤ 65536) : Ur W B b g w h D u Q' := by
  obtain ⟨cs, h1, h2⟩ := H.nds
  refine ⟨H.w1, H.h1, H.sz, H.ws, H.hs, H.d, H.us, H.geb, H.geg, H.obj, ⟨cs, h1, fun k x y hk hx hy => ?_⟩, hv, hq⟩
  rw [← hQ k x y hk hx hy]
  exact h2 k x y hk hx hy
/-- Another value of a node above the leaves. -/
theorem Ur.putV (H : Ur W B b g w h D u Q) {k X Y : Nat} (hk : k + 1 < D) (hX : X < dm w (k + 1)) (hY : Y < dm h (k + 1)) (v : Int) {o : Nat} (ho : o = ix w h (k + 1) X Y * 3) :
    Ur (W.setCell ⟨g, o, none⟩ (.int .i64 v)) B b g w h D u (upN Q (k + 1) X Y ⟨v, (Q (k + 1) X Y).l, (Q (k + 1) X Y).b⟩) :=
  H.put hk hX hY 0 (by omega) ⟨v, (Q (k + 1) X Y).l, (Q (k + 1) X Y).b⟩ (fun c hc hn => by
    match c, hc with
    | 0, _ => exact absurd rfl hn
    | 1, _ => rfl
    | 2, _ => rfl) (H.qb _ _ _) (fun e => by omega) (by omega)
end
theorem mo_end {w h D : Nat} {Q Q' : Nat → Nat → Nat → Nd} {W : World} {B b g : Nat} {u : Int} (H : Ur W B b g w h D u Q') (hM : Mo w h D (D - 1) Q Q') (hf : ∀ x y, 0 ≤ (Q 0 x y).v ∧ (Q 0 x y).v ≤ 65535) (hq : ∀ k x y, 0 ≤ (Q k x y).l ∧ (Q k x y).l ≤ 65536) : Ur W B b g w h D u (minQ w h Q) := by
  refine H.congr (fun k x y hk hx hy => ?_) (fun x y => ?_) (fun k x y => hq k x y)
  · have h1 := hM.lo k x y (by omega) hk hx hy
    obtain ⟨h2, h3⟩ := hM.lb k x y
    show Q' k x y = ⟨_, _, _⟩
    rw [← h1, ← h2, ← h3]
  · exact mv_bd w h (fun X Y => (Q 0 X Y).v) hf 0 x y
end Go.Proofs.Ytaddendclipkkaa
